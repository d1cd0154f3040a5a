/-
  Packed: Draw6, Draw7, Draw8.
-/
import Derived.Test.YtmhkkdnopcdibaaQ18
set_option linter.unusedVariables false
namespace Go.Proofs.Ytmhkkdnopcdibaa
open Go.RowKit

def idxF (d : DrwD) : List Int → Nat → (Nat → Nat → Bool) → (Nat → Nat → Int) → Nat
  | [], _, _, _ => 0
  | x :: L, i, P, C => sumNN (fun g => if fitB d P C i g = true then cntF d (d.N - (i + 1)) (putP d P i g true) (putC d C i g true) (i + 1) else 0) x.toNat + idxF d L (i + 1) (putP d P i x.toNat true) (putC d C i x.toNat true)
theorem idxF_cons (d : DrwD) (x : Int) (L : List Int) (i : Nat) (P : Nat → Nat → Bool) (C : Nat → Nat → Int) : idxF d (x :: L) i P C = sumNN (fun g => if fitB d P C i g = true then cntF d (d.N - (i + 1)) (putP d P i g true) (putC d C i g true) (i + 1) else 0) x.toNat + idxF d L (i + 1) (putP d P i x.toNat true) (putC d C i x.toNat true) := rfl
theorem DrwEq.idx {d d' : DrwD} (h : DrwEq d d') : ∀ (L : List Int) (i : Nat) (P : Nat → Nat → Bool) (C : Nat → Nat → Int), idxF d L i P C = idxF d' L i P C
  | [], _, _, _ => rfl
  | x :: L, i, P, C => by
    rw [idxF_cons, idxF_cons, h.N, h.fit, h.cnt, h.putP, h.putC, DrwEq.idx h L]
def befS (d : DrwD) (i : Nat) (P : Nat → Nat → Bool) (C : Nat → Nat → Int) : Nat → Nat := sumNN (fun g => if fitB d P C i g = true then cntF d (d.N - (i + 1)) (putP d P i g true) (putC d C i g true) (i + 1) else 0)
theorem befS_succ (d : DrwD) (i : Nat) (P : Nat → Nat → Bool) (C : Nat → Nat → Int) (g : Nat) : befS d i P C (g + 1) = befS d i P C g + (if fitB d P C i g = true then cntF d (d.N - (i + 1)) (putP d P i g true) (putC d C i g true) (i + 1) else 0) := rfl
theorem befS_le (d : DrwD) (h4 : d.G ≤ 4) (h12 : d.N ≤ 12) (i : Nat) (P : Nat → Nat → Bool) (C : Nat → Nat → Int) (k : Nat) (hk : k ≤ 4) : befS d i P C k ≤ 67108864 := by
  refine Nat.le_trans (sumNN_le (B := 4 ^ (d.N - (i + 1))) k fun g hg => ?_) ?_
  · show (if _ then _ else _) ≤ _
    split
    · exact cntF_le d h4 _ _ _ _
    · exact Nat.zero_le _
  · have h9 : 4 ^ (d.N - (i + 1)) ≤ 4 ^ 12 := Nat.pow_le_pow_right (by decide) (by omega)
    have h8 : k * 4 ^ (d.N - (i + 1)) ≤ 4 * 4 ^ 12 := Nat.mul_le_mul hk h9
    exact Nat.le_trans h8 (by decide)
set_option maxRecDepth 100000 in
set_option maxHeartbeats 8000000 in
theorem indexOfDraw_spec (vf : Value) (nf : Nat) (F : Nat → TeamD) (vp : Value) (gr most : Int) (T : List (List Int)) (vd : Value) (L : List Int) (R : Int) (w : World) (hR : potsP nf F T gr most ∧ isB F T gr most L = true → R = (idxF (drwD F T gr most) L 0 noP noC : Nat)) (hR0 : ¬ (potsP nf F T gr most ∧ isB F T gr most L = true) → R = -1) (hf : TeamRow w vf nf F) (hs : ∀ i, (F i).nm.size ≤ maxLen) (h : RdA tIntSS w [vp] T) (hw : tIntSS.wt T ≤ 1048576) (hd : IntRow w vd L.length (getI L)) :
    Calls Try.prog 38 #[vf, .agg #[vp, .int .i64 gr, .int .i64 most], vd] w fun e w' => e = .returned (.int .i64 R) ∧ Below w.heap.size w w' := by
  obtain ⟨pa, pc, rfl, hpn⟩ := pots_form h
  obtain ⟨da, dc, rfl, hdn, _⟩ := hd.form
  obtain ⟨r1, hr1⟩ := boolEx (potsP nf F T gr most ∧ isB F T gr most L = true)
  obtain ⟨U, hU⟩ : ∃ U, w.alloc (.cells #[.slice pa (List.length (α := List Int) T) pc, .int .i64 gr, .int .i64 most] 26) = U := ⟨_, rfl⟩
  have bU : Below w.heap.size w U := by rw [← hU]; exact (Below.refl _ _).alloc (Nat.le_refl _) _
  have HS : Hid (PotsAt U w.heap.size pa (List.length (α := List Int) T) pc gr most T) := by rw [← hU]; exact PotsAt.made h
  have HB := Lib.hid bU
  have HD : Hid (IntRow U (.slice da L.length dc) L.length (getI L)) := hd.below bU (Nat.le_refl _)
  have HF : Hid (TeamRow U vf nf F) := hf.below bU (Nat.le_refl _)
  have CF := Lib.hid (isDraw_spec l12New_spec vf nf F (.slice pa (List.length (α := List Int) T) pc) gr most T (.slice da L.length dc) L r1 U hr1 HF.out hs HS.out.2 hw HD.out)
  have CN : Hid (∀ wa, TeamRow wa vf nf F → RdA tIntSS wa [.slice pa (List.length (α := List Int) T) pc] T → potsP nf F T gr most → Calls Try.prog 65 #[vf, .agg #[.slice pa (List.length (α := List Int) T) pc, .int .i64 gr, .int .i64 most]] wa (NewM wa (drwD F T gr most))) := fun wa h1 h2 h3 => l12New_spec _ _ _ _ _ _ _ wa h1 h2 hw h3
  have HR1 := Lib.hid hr1
  have HRR := Lib.hid hR
  have HR0 := Lib.hid hR0
  obtain ⟨m, hm⟩ : ∃ m, L.length = m := ⟨_, rfl⟩
  have HM := Lib.hid hm
  obtain ⟨np, hnp⟩ : ∃ np, List.length (α := List Int) T = np := ⟨_, rfl⟩
  rw [hm] at hdn HD CF ⊢
  rw [hnp] at hU HS CF CN ⊢
  have c0 := HS.out.1.2 0 _ rfl
  have c1 := HS.out.1.2 1 _ rfl
  have c2 := HS.out.1.2 2 _ rfl
  clear h hf hR hR0 hr1 hd bU hw hs hm hnp hpn
  go_enter Try.func38, Try.ntmps38
  go_wp2_with fail
  clear hU c0 c1 c2
  refine CF.out.mono ?_
  rintro e w1 ⟨rfl, b⟩
  have HS1 := Lib.hid (HS.out.below b)
  have HF1 := Lib.hid (HF.out.below b (Nat.le_refl _))
  have HD1 := Lib.hid (HD.out.below b (Nat.le_refl _))
  have HB1 := Lib.hid (HB.out.trans (b.mono HB.out.size))
  clear b HS HB CF HF HD
  have c0 := HS1.out.1.2 0 _ rfl
  have c1 := HS1.out.1.2 1 _ rfl
  have c2 := HS1.out.1.2 2 _ rfl
  cases r1 with
  | false =>
    obtain rfl : R = -1 := HR0.out fun h => by have := HR1.out.2 h; cases this
    go_wp2
    go_ret
    exact ⟨rfl, HB1.out⟩
  | true =>
  have HP := Lib.hid (HR1.out.1 rfl)
  have HRE := Lib.hid (HRR.out HP.out)
  have CN1 := Lib.hid (CN.out w1 HF1.out HS1.out.2 HP.out.1)
  clear HR1 HRR HR0 CN
  go_wp2_with fail
  clear c0 c1 c2
  refine CN1.out.mono ?_
  rintro e w2 ⟨lo, hi, X, d, rfl, hq, hdr, b, hlo⟩
  have HB2 := Lib.hid (HB1.out.trans (b.mono HB1.out.size))
  have HDr := Lib.hid hdr
  have HD2 : Hid (IntRow w2 (.slice da m dc) m (getI L)) := HD1.out.below b (Nat.le_refl _)
  have HIN : Hid (0 < m → InW 0 lo (.slice da m dc)) := fun h0 => InW.nat HD1.out h0 hlo
  have HLO : Hid (w.heap.size ≤ lo) := Nat.le_trans HB1.out.size hlo
  have HSZ : Hid (w.heap.size ≤ w2.heap.size) := HB2.out.size
  have h4 : d.G ≤ 4 := hdr.caps.2.2.2.2.1
  have h12 : d.N ≤ 12 := hdr.caps.2.2.2.1
  have hBE : (begB (drwD F T gr most) L noP noC).isSome = true ∧ L.length = d.N := by
    have h9 := HP.out.2
    unfold isB at h9
    rw [Bool.and_eq_true, decide_eq_true_eq] at h9
    exact ⟨h9.2, h9.1.trans hq.N.symm⟩
  rw [← hq.beg] at hBE
  have hmN : m = d.N := by rw [← HM.out]; exact hBE.2
  have HB0 : Hid ((begF d (L.drop 0) 0 noP noC).isSome = true) := by
    have h9 := hBE.1
    unfold begB at h9
    rw [if_pos (by omega)] at h9
    exact h9
  have HRd : Hid ((0 : Nat) + idxF d (L.drop 0) 0 noP noC = idxF (drwD F T gr most) L 0 noP noC) := by show _ = _; rw [Nat.zero_add, hq.idx]; rfl
  clear hdr hq b hlo CN1 hBE
  obtain ⟨RR, hRR⟩ : ∃ RR, idxF (drwD F T gr most) L 0 noP noC = RR := ⟨_, rfl⟩
  rw [hRR] at HRd HRE
  clear hRR
  have HMN := Lib.hid hmN
  have hm12 : m ≤ 12 := by omega
  clear hmN
  go_wp2
  go_loopw [8, 22] (fun nv iv wr => ∃ (i n : Nat) (P : Nat → Nat → Bool) (C : Nat → Nat → Int), i ≤ m ∧ iv = .int .i64 i ∧ nv = .int .i64 n ∧ Hid (n + idxF d (L.drop i) i P C = RR) ∧ n ≤ i * 67108864 ∧ Hid ((begF d (L.drop i) i P C).isSome = true) ∧ Hid (DrwAt wr lo hi X d P C) ∧ Hid (clubB d C i) ∧ Hid (Touch lo hi w2 wr)) (fun _ iv _ => m - (RowKit.intOf iv).toNat)
  case atStart => exact ⟨0, 0, noP, noC, Nat.zero_le _, rfl, rfl, HRd, by omega, HB0, HDr, clubB.none d, Touch.refl _ _ _⟩
  case round =>
    clear HRd HB0 HDr
    obtain ⟨i, n, P, C, hi9, rfl, rfl, HV, hn9, HBG, HD, HC, HT⟩ := hrel
    by_cases hlt : i < m
    · have HLr := Lib.hid (HD2.out.touch HT.out (fun h0 => HIN.out h0) (.inl (Nat.le_refl _)))
      obtain ⟨b, off, rfl, hcap, q0⟩ := int_at HLr.out hlt
      have hj1 : (i : Int) < (m : Int) := by omega
      have hLi : L[i]? = some (getI L i) := by rw [List.getElem?_eq_getElem (by rw [HM.out]; exact hlt)]; simp [getI, show i < L.length by rw [HM.out]; exact hlt]
      have hdrp : L.drop i = getI L i :: L.drop (i + 1) := by
        obtain ⟨hl, he⟩ := List.getElem?_eq_some_iff.1 hLi
        rw [← he]
        exact List.drop_eq_getElem_cons hl
      have HV2 := HV.out
      have HG2 := HBG.out
      rw [hdrp, idxF_cons] at HV2
      rw [hdrp, begF_cons] at HG2
      have hiN : i < d.N := by rw [← HMN.out]; exact hlt
      obtain ⟨x, hx⟩ : ∃ x, getI L i = x := ⟨_, rfl⟩
      rw [hx] at q0 HV2 HG2
      clear hx hLi hdrp HV HBG
      have hxr : (0 ≤ x ∧ x ≤ (d.G : Int) - 1) ∧ fitB d P C i x.toNat = true := by
        split at HG2
        · next h => exact h
        · cases HG2
      rw [if_pos hxr] at HG2
      obtain ⟨g, rfl⟩ : ∃ g : Nat, x = g := ⟨x.toNat, by omega⟩
      rw [Int.toNat_natCast] at HV2 HG2
      have hgG : g < d.G := by omega
      have hg4 : g ≤ 4 := by omega
      have HVN : Hid ((n + befS d i P C g) + idxF d (L.drop (i + 1)) (i + 1) (putP d P i g true) (putC d C i g true) = RR) := by
        show _ = _
        rw [Nat.add_assoc]
        exact HV2
      have HGN := Lib.hid HG2
      have HLE : Hid (∀ k, k ≤ 4 → befS d i P C k ≤ 67108864) := befS_le d h4 h12 i P C
      have HST := Lib.hid (befS_succ d i P C)
      have HS0 : Hid (befS d i P C 0 = 0) := rfl
      have hcl6 := (HD.out.club i hiN).2
      have hnb : n ≤ 805306368 := by have : i * 67108864 ≤ 12 * 67108864 := Nat.mul_le_mul_right _ (by omega); omega
      clear HV2 HG2 hxr
      obtain ⟨SS, hSS⟩ : ∃ SS, befS d i P C = SS := ⟨_, rfl⟩
      rw [hSS] at HVN HLE HST HS0
      clear hSS
      go_wp2
      clear q0
      generalize wr = w3 at *
      go_loopw [8, 11] (fun nv kv wr => ∃ (k n2 : Nat), k ≤ g ∧ kv = .int .i64 k ∧ nv = .int .i64 n2 ∧ Hid (n2 = n + SS k) ∧ Hid (DrwAt wr lo hi X d P C) ∧ Hid (Touch lo hi w2 wr)) (fun _ kv _ => g - (RowKit.intOf kv).toNat)
      case atStart => exact ⟨0, n, Nat.zero_le _, rfl, rfl, by show _ = _; rw [HS0.out]; rfl, HD, HT⟩
      case round =>
        clear HD HT HLr
        obtain ⟨k, n2, hk9, rfl, rfl, HW, HD, HT⟩ := hrel
        by_cases hlt2 : k < g
        · have hj2 : (k : Int) < (g : Int) := by omega
          have hkG : k < d.G := by omega
          have hb1 := HLE.out k (by omega)
          have hb2 := HLE.out (k + 1) (by omega)
          rw [HST.out] at hb2
          have hn2 : n2 ≤ 872415232 := by have := HW.out; omega
          have HWN := Lib.hid (HST.out k)
          have CF := Lib.hid (l12Fits_spec wr lo hi X d P C i k HD.out hiN hkG)
          have HFF : Hid (fitB d P C i k = true → P k (d.pot i) = false) := fun h => (fit_free h).1
          obtain ⟨ft, hft⟩ : ∃ b, fitB d P C i k = b := ⟨_, rfl⟩
          rw [hft] at CF HWN HFF hb2
          clear hft
          go_wp2_with fail
          refine CF.out.mono ?_
          rintro e w4 ⟨rfl, b4⟩
          have HD1 := Lib.hid (HD.out.below b4)
          have HT1 := Lib.hid (HT.out.trans (Touch.of_below b4))
          clear b4 CF
          cases ft with
          | false =>
            have HWx : Hid (n2 = n + SS (k + 1)) := by show _ = _; rw [HWN.out, if_neg (by simp), HW.out]; rfl
            clear HWN HFF hb2
            go_wp2
            go_roundw
            case rel => exact ⟨k + 1, n2, by omega, by go_num, rfl, HWx, HD1, HT1⟩
            case measure => simp [RowKit.intOf]; omega
          | true =>
            rw [if_pos rfl] at hb2
            have HWx : Hid (n2 + cntF d (d.N - (i + 1)) (putP d P i k true) (putC d C i k true) (i + 1) = n + SS (k + 1)) := by show _ = _; rw [HWN.out, if_pos rfl, HW.out, Nat.add_assoc]
            have hcb := HC.out k _ hkG hcl6
            have CP := Lib.hid (l12Put_spec w4 lo hi X d P C i k true HD1.out hiN hkG (by omega))
            have HPB : Hid (putP d (putP d P i k true) i k false = P) := putP_back (HFF.out rfl)
            have HCB : Hid (putC d (putC d C i k true) i k false = C) := putC_back
            have HCN := Lib.hid (HC.out.put hkG hcl6)
            clear HWN HFF
            go_wp2_with fail
            refine CP.out.mono ?_
            rintro e w5 ⟨rfl, hd2, ht2⟩
            have HD5 := Lib.hid hd2
            have HT5 := Lib.hid (HT1.out.trans ht2)
            clear hd2 ht2 CP HD1 HT1
            have CC := Lib.hid (l12Count_spec lo hi X d (d.N - (i + 1)) (i + 1) _ _ w5 (by omega) HD5.out HCN.out)
            have hcn := HCN.out k _ hkG hcl6
            have CP2 := Lib.hid (fun wa ha => l12Put_spec wa lo hi X d (putP d P i k true) (putC d C i k true) i k false ha hiN hkG (by omega))
            rw [HPB.out, HCB.out] at CP2
            clear HPB HCB hcn
            generalize cntF d (d.N - (i + 1)) (putP d P i k true) (putC d C i k true) (i + 1) = kk at *
            go_wp2_with fail
            refine CC.out.mono ?_
            rintro e w6 ⟨rfl, hd3, ht3⟩
            have HD6 := Lib.hid hd3
            have HT6 := Lib.hid (HT5.out.trans ht3)
            clear hd3 ht3 CC HD5 HT5
            go_wp2_with fail
            refine (CP2.out _ HD6.out).mono ?_
            rintro e w7 ⟨rfl, hd4, ht4⟩
            have HD7 := Lib.hid hd4
            have HT7 := Lib.hid (HT6.out.trans ht4)
            clear hd4 ht4 CP2 HD6 HT6
            go_wp2
            go_roundw
            case rel => exact ⟨k + 1, n2 + kk, by omega, by go_num, by go_num, HWx, HD7, HT7⟩
            case measure => simp [RowKit.intOf]; omega
        obtain rfl : g = k := by omega
        have hb1 := HLE.out g hg4
        have hcb := HC.out g _ hgG hcl6
        have CP := Lib.hid (l12Put_spec wr lo hi X d P C i g true HD.out hiN hgG (by omega))
        have HCN := Lib.hid (HC.out.put hgG hcl6)
        have hn2 : n2 ≤ (i + 1) * 67108864 := by have := HW.out; rw [Nat.succ_mul]; omega
        have HVx : Hid (n2 + idxF d (L.drop (i + 1)) (i + 1) (putP d P i g true) (putC d C i g true) = RR) := by show _ = _; rw [HW.out]; exact HVN.out
        clear HVN HLE HST HS0
        go_wp2_with fail
        refine CP.out.mono ?_
        rintro e w8 ⟨rfl, hd5, ht5⟩
        have HD8 := Lib.hid hd5
        have HT8 := Lib.hid (HT.out.trans ht5)
        clear hd5 ht5 CP HD HT
        go_wp2
        go_roundw
        case rel => exact ⟨i + 1, n2, _, _, by omega, by go_num, rfl, HVx, hn2, HGN, HD8, HCN, HT8⟩
        case measure => simp [RowKit.intOf]; omega
    obtain rfl : m = i := by omega
    have HRy : Hid (R = (n : Int)) := by
      have h9 := HV.out
      rw [List.drop_of_length_le (by have := HM.out; omega)] at h9
      show _ = _
      rw [HRE.out, ← h9]
      rfl
    go_wp2
    go_ret
    exact ⟨by rw [HRy.out]; rfl, HB2.out.trans (HT.out.below HLO.out HSZ.out)⟩
end Go.Proofs.Ytmhkkdnopcdibaa
set_option linter.unusedVariables false
namespace Go.Proofs.Ytmhkkdnopcdibaa
open Go.RowKit

theorem DrwAt.belowHi {w w' : World} {lo hi X : Nat} {d : DrwD} {P : Nat → Nat → Bool} {C : Nat → Nat → Int} (h : DrwAt w lo hi X d P C) (hG : 0 < d.G) (b : Below hi w w') : DrwAt w' lo hi X d P C := by
  have hl : lo < hi := Nat.lt_of_le_of_lt h.mp.low.1 h.mp.low.2
  have key : ∀ (k o : Nat) (u : Value), k < hi → w.cell? ⟨k, o, none⟩ = some u → w'.cell? ⟨k, o, none⟩ = some u := fun k o u hk hc => (b.cell (p := ⟨k, o, none⟩) hk).trans hc
  have keyf : ∀ (k o : Nat), k < hi → w'.frozen? ⟨k, o, none⟩ = w.frozen? ⟨k, o, none⟩ := fun k o hk => b.frozen (p := ⟨k, o, none⟩) hk
  obtain ⟨l1, l2, l3, l4⟩ := h.low
  have mat : ∀ {gb cap : Nat} {r rc : Nat → Nat} {n m : Nat} {f : Nat → Nat → Value}, Mat w lo hi gb cap r rc n m f → Mat w' lo hi gb cap r rc n m f := fun hm =>
    ⟨hm.cap, hm.low, Nat.le_trans hm.high b.size, fun g hg => key _ _ _ hm.low.2 (hm.cell g hg), hm.rcap, hm.row, hm.diff, fun g j hg hj => ⟨key _ _ _ (hm.row g hg).2.1 (hm.val g j hg hj).1, (keyf _ _ (hm.row g hg).2.1).trans (hm.val g j hg hj).2⟩⟩
  exact ⟨⟨Nat.lt_of_lt_of_le h.box.1 b.size, fun j v hv => key _ _ _ (Nat.lt_trans l1 hl) (h.box.2 j v hv)⟩, h.low, h.caps, fun i hi => ⟨key _ _ _ (Nat.lt_trans l3 hl) (h.team i hi).1, (h.team i hi).2⟩, fun i hi => ⟨key _ _ _ (Nat.lt_trans l4 hl) (h.pot i hi).1, (h.pot i hi).2⟩, fun i hi => ⟨key _ _ _ (Nat.lt_trans l2 hl) (h.club i hi).1, (h.club i hi).2⟩, mat h.mp, mat h.mc, h.apart⟩
def pickG (S : Nat → Nat) (x G : Nat) : Nat := ((List.range G).find? fun g => decide (x < S (g + 1))).getD 0
theorem pickG_is {S : Nat → Nat} {x G g : Nat} (hg : g < G) (hx : x < S (g + 1)) (hb : ∀ k, k < g → ¬ x < S (k + 1)) : pickG S x G = g := by
  unfold pickG
  have h : (List.range G).find? (fun g => decide (x < S (g + 1))) = some g := by
    rw [List.find?_eq_some_iff_getElem]
    refine ⟨by simpa using hx, g, by simpa using hg, by simp, fun j hj => ?_⟩
    have := hb j hj
    simpa using this
  rw [h]
  rfl
def atF (d : DrwD) : Nat → (Nat → Nat → Bool) → (Nat → Nat → Int) → Nat → Nat → List Int
  | 0, _, _, _, _ => []
  | f + 1, P, C, i, x => ((pickG (befS d i P C) x d.G : Nat) : Int) :: atF d f (putP d P i (pickG (befS d i P C) x d.G) true) (putC d C i (pickG (befS d i P C) x d.G) true) (i + 1) (x - befS d i P C (pickG (befS d i P C) x d.G))
theorem DrwEq.bef {d d' : DrwD} (h : DrwEq d d') : befS d = befS d' := by
  funext i P C
  unfold befS
  rw [h.N, h.fit, h.cnt, h.putP, h.putC]
theorem DrwEq.at' {d d' : DrwD} (h : DrwEq d d') : atF d = atF d' := by
  funext f
  induction f with
  | zero => rfl
  | succ f IH =>
    funext P C i x
    unfold atF
    rw [h.G, h.bef, h.putP, h.putC, IH]
theorem cnt_bef {d : DrwD} {P : Nat → Nat → Bool} {C : Nat → Nat → Int} {i : Nat} (hi : i < d.N) : cntF d (d.N - i) P C i = befS d i P C d.G := by
  obtain ⟨f, hf⟩ : ∃ f, d.N - i = f + 1 := ⟨d.N - (i + 1), by omega⟩
  have e : d.N - (i + 1) = f := by omega
  rw [hf]
  show (if i = d.N then _ else _) = _
  rw [if_neg (by omega)]
  unfold befS
  rw [e]
theorem atF_step {d : DrwD} {P : Nat → Nat → Bool} {C : Nat → Nat → Int} {i x g : Nat} (hi : i < d.N) (hp : pickG (befS d i P C) x d.G = g) :
    atF d (d.N - i) P C i x = ((g : Nat) : Int) :: atF d (d.N - (i + 1)) (putP d P i g true) (putC d C i g true) (i + 1) (x - befS d i P C g) := by
  obtain ⟨f, hf⟩ : ∃ f, d.N - i = f + 1 := ⟨d.N - (i + 1), by omega⟩
  have e : d.N - (i + 1) = f := by omega
  rw [hf, e, ← hp]
  rfl
theorem atF_len (d : DrwD) : ∀ (f : Nat) (P : Nat → Nat → Bool) (C : Nat → Nat → Int) (i x : Nat), (atF d f P C i x).length = f
  | 0, _, _, _, _ => rfl
  | f + 1, P, C, i, x => by
    show (atF d f _ _ _ _).length + 1 = _
    rw [atF_len d f]
set_option maxRecDepth 100000 in
set_option maxHeartbeats 8000000 in
theorem l12At_spec (vf : Value) (nf : Nat) (F : Nat → TeamD) (vp : Value) (gr most : Int) (T : List (List Int)) (x : Nat) (w : World) (hp : potsP nf F T gr most) (hx : x < cntF (drwD F T gr most) T.flatten.length noP noC 0) (hf : TeamRow w vf nf F) (h : RdA tIntSS w [vp] T) (hw : tIntSS.wt T ≤ 1048576) :
    Calls Try.prog 68 #[vf, .agg #[vp, .int .i64 gr, .int .i64 most], .int .i64 x] w (IntsL w (atF (drwD F T gr most) T.flatten.length noP noC 0 x)) := by
  obtain ⟨i0, hi, hz0, hz1, hz2⟩ := info_parts Try.infoI
  obtain ⟨pa, pc, rfl, hpn⟩ := pots_form h
  obtain ⟨U, hU⟩ : ∃ U, w.alloc (.cells #[.slice pa (List.length (α := List Int) T) pc, .int .i64 gr, .int .i64 most] 26) = U := ⟨_, rfl⟩
  have bU : Below w.heap.size w U := by rw [← hU]; exact (Below.refl _ _).alloc (Nat.le_refl _) _
  have HS : Hid (PotsAt U w.heap.size pa (List.length (α := List Int) T) pc gr most T) := by rw [← hU]; exact PotsAt.made h
  have HB := Lib.hid bU
  have CN := Lib.hid (l12New_spec vf nf F (.slice pa (List.length (α := List Int) T) pc) gr most T U (hf.below bU (Nat.le_refl _)) HS.out.2 hw hp)
  obtain ⟨np, hnp⟩ : ∃ np, List.length (α := List Int) T = np := ⟨_, rfl⟩
  rw [hnp] at hpn hU HS CN ⊢
  have c0 := HS.out.1.2 0 _ rfl
  have c1 := HS.out.1.2 1 _ rfl
  have c2 := HS.out.1.2 2 _ rfl
  have HX := Lib.hid hx
  obtain ⟨RR, hRR⟩ : ∃ RR, atF (drwD F T gr most) T.flatten.length noP noC 0 x = RR := ⟨_, rfl⟩
  have HRR := Lib.hid hRR
  rw [hRR]
  have HG0 : Hid (1 ≤ gr ∧ gr ≤ 4) := hp.2.1
  clear h hf bU hw hp hx hnp hpn hRR
  go_enter Try.func68, Try.ntmps68
  go_wp2_with fail
  clear hU c0 c1 c2
  refine CN.out.mono ?_
  rintro e w2 ⟨lo, hi2, X, d, rfl, hq, hdr, b, hlo⟩
  have HB2 := Lib.hid (HB.out.trans (b.mono HB.out.size))
  have HLO : Hid (w.heap.size ≤ lo) := Nat.le_trans HB.out.size hlo
  have h4 : d.G ≤ 4 := hdr.caps.2.2.2.2.1
  have h12 : d.N ≤ 12 := hdr.caps.2.2.2.1
  have hG1 : 0 < d.G := by have h9 := hq.G; have h8 : (drwD F T gr most).G = gr.toNat := rfl; have := HG0.out; omega
  have hhi : hi2 ≤ w2.heap.size := hdr.mp.high
  have hlh : lo < hi2 := Nat.lt_of_le_of_lt hdr.mp.low.1 hdr.mp.low.2
  have HN : Hid (T.flatten.length = d.N) := hq.N.symm
  have HX0 : Hid (x < cntF d (d.N - 0) noP noC 0) := by have h9 := HX.out; rw [HN.out, ← hq.cnt] at h9; exact h9
  have HR0 : Hid (([] : List Int) ++ atF d (d.N - 0) noP noC 0 x = RR) := by have h9 := HRR.out; rw [HN.out, ← hq.at'] at h9; exact h9
  obtain ⟨W, hW⟩ : ∃ W, w2.alloc (.cells #[] 3) = W := ⟨_, rfl⟩
  have bW : Below w2.heap.size w2 W := by rw [← hW]; exact (Below.refl _ _).alloc (Nat.le_refl _) _
  have ON : Hid (W.ownsRow w2.heap.size 3 1 (.slice (some ⟨w2.heap.size, 0, none⟩) 0 0) 0 []) := by rw [← hW]; exact World.ownsRow_lit (e := 3) (size := 1) w2 #[] 0 (Nat.le_refl _) (by decide) rfl
  have HDW := Lib.hid (hdr.below bW)
  have HBW : Hid (Below lo w2 W) := bW.mono (by omega)
  have q2 := HDW.out.box.2 2 _ rfl
  have hsl : lo ≤ w2.heap.size := by omega
  clear hdr hq b hlo CN HX HRR bW
  obtain ⟨N, hNd⟩ : ∃ N, d.N = N := ⟨_, rfl⟩
  have HND := Lib.hid hNd
  rw [hNd] at h12 q2 HX0 HR0
  clear hNd
  go_wp2
  clear hW q2
  go_loopw [2, 8, 21] (fun xv ov iv wr => ∃ (i x : Nat) (out : List Int) (P : Nat → Nat → Bool) (C : Nat → Nat → Int), i ≤ N ∧ iv = .int .i64 i ∧ xv = .int .i64 x ∧ out.length = i ∧ Hid (out ++ atF d (N - i) P C i x = RR) ∧ Hid (x < cntF d (N - i) P C i) ∧ Hid (wr.ownsRow w2.heap.size 3 1 ov i (out.map (Value.int .i64))) ∧ Hid (DrwAt wr lo hi2 X d P C) ∧ Hid (clubB d C i) ∧ Hid (Below lo w2 wr)) (fun _ _ iv _ => N - (RowKit.intOf iv).toNat)
  case atStart => exact ⟨0, x, [], noP, noC, Nat.zero_le _, rfl, rfl, rfl, HR0, HX0, ON, HDW, clubB.none d, HBW⟩
  case round =>
    clear HR0 HX0 ON HDW HBW
    obtain ⟨i, x, out, P, C, hi9, rfl, rfl, hol, HV, HXC, HO, HD, HC, HBr⟩ := hrel
    by_cases hlt : i < N
    · have hj1 : (i : Int) < (N : Int) := by omega
      have hiN : i < d.N := by rw [HND.out]; exact hlt
      have hcl6 := (HD.out.club i hiN).2
      have HXB : Hid (x < befS d i P C d.G) := by have h9 := HXC.out; rw [← HND.out, cnt_bef hiN] at h9; exact h9
      have HLE : Hid (∀ k, k ≤ 4 → befS d i P C k ≤ 67108864) := befS_le d h4 (by rw [HND.out]; exact h12) i P C
      have HST := Lib.hid (befS_succ d i P C)
      have HAT : Hid (∀ g, pickG (befS d i P C) x d.G = g → out ++ ([((g : Nat) : Int)] ++ atF d (N - (i + 1)) (putP d P i g true) (putC d C i g true) (i + 1) (x - befS d i P C g)) = RR) := fun g hg => by
        have h9 := HV.out
        rw [← HND.out, atF_step hiN hg, HND.out] at h9
        exact h9
      have hx6 : x ≤ 67108864 := by have := HXB.out; have := HLE.out d.G h4; omega
      have HS0 : Hid (befS d i P C 0 = 0) := rfl
      have HPK : Hid (∀ g, g < d.G → x < befS d i P C (g + 1) → (∀ k, k < g → ¬ x < befS d i P C (k + 1)) → pickG (befS d i P C) x d.G = g) := fun g => pickG_is
      obtain ⟨SS, hSS⟩ : ∃ SS, befS d i P C = SS := ⟨_, rfl⟩
      rw [hSS] at HXB HLE HST HAT HS0 HPK
      clear hSS HV HXC
      have q4 := HD.out.box.2 4 _ rfl
      obtain ⟨G, hGd⟩ : ∃ G, d.G = G := ⟨_, rfl⟩
      have HGD := Lib.hid hGd
      rw [hGd] at q4 h4 hG1 HXB HPK
      clear hGd
      obtain ⟨oa, oc, hof⟩ := owns_form HO.out
      subst hof
      go_wp2
      clear q4
      generalize wr = w3 at *
      go_loopw [2, 8, 29] (fun xv ov gv wr => ∃ (g y : Nat), g ≤ G ∧ gv = .int .i64 g ∧ xv = .int .i64 y ∧ ov = .slice oa i oc ∧ Hid (y + SS g = x) ∧ Hid (∀ k, k < g → ¬ x < SS (k + 1)) ∧ Hid (wr.ownsRow w2.heap.size 3 1 (.slice oa i oc) i (out.map (Value.int .i64))) ∧ Hid (DrwAt wr lo hi2 X d P C) ∧ Hid (Below lo w2 wr)) (fun _ _ gv _ => G - (RowKit.intOf gv).toNat)
      case atStart => exact ⟨0, x, Nat.zero_le _, rfl, rfl, rfl, by show _ = _; rw [HS0.out]; rfl, fun k hk => absurd hk (Nat.not_lt_zero _), HO, HD, HBr⟩
      case round =>
        clear HO HD HBr
        obtain ⟨g, y, hg9, rfl, rfl, rfl, HY, HNB, HO, HD, HBr⟩ := hrel
        by_cases hlt2 : g < G
        · have hj2 : (g : Int) < (G : Int) := by omega
          have hgG : g < d.G := by rw [HGD.out]; exact hlt2
          have hb1 := HLE.out g (by omega)
          have hb2 := HLE.out (g + 1) (by omega)
          rw [HST.out] at hb2
          have hy6 : y ≤ 67108864 := by have := HY.out; omega
          have HSN := Lib.hid (HST.out g)
          have CF := Lib.hid (l12Fits_spec w3 lo hi2 X d P C i g)
          have CF2 := Lib.hid (l12Fits_spec wr lo hi2 X d P C i g HD.out hiN hgG)
          have HFF : Hid (fitB d P C i g = true → P g (d.pot i) = false) := fun h => (fit_free h).1
          obtain ⟨ft, hft⟩ : ∃ b, fitB d P C i g = b := ⟨_, rfl⟩
          rw [hft] at CF2 HSN HFF hb2
          clear hft CF
          go_wp2_with fail
          refine CF2.out.mono ?_
          rintro e w4 ⟨rfl, b4⟩
          have HD1 := Lib.hid (HD.out.below b4)
          have HB4 : Hid (Below lo w2 w4) := HBr.out.trans (b4.mono (Nat.le_trans hsl HBr.out.size))
          have HO1 := Lib.hid (owns_below HO.out b4 (Nat.le_refl _))
          clear b4 CF2 HD HBr HO
          cases ft with
          | false =>
            have HYx : Hid (y + SS (g + 1) = x) := by show _ = _; rw [HSN.out, if_neg (by simp), Nat.add_zero]; exact HY.out
            have HNx : Hid (∀ k, k < g + 1 → ¬ x < SS (k + 1)) := fun k hk => by
              by_cases e : k = g
              · rw [e]; have := HYx.out; omega
              · exact HNB.out k (by omega)
            clear HSN HFF hb2
            go_wp2
            go_roundw
            case rel => exact ⟨g + 1, y, by omega, by go_num, rfl, rfl, HYx, HNx, HO1, HD1, HB4⟩
            case measure => simp [RowKit.intOf]; omega
          | true =>
            rw [if_pos rfl] at hb2
            have HSx : Hid (SS (g + 1) = SS g + cntF d (d.N - (i + 1)) (putP d P i g true) (putC d C i g true) (i + 1)) := by show _ = _; rw [HSN.out, if_pos rfl]
            have hcb := HC.out g _ hgG hcl6
            have CP := Lib.hid (l12Put_spec w4 lo hi2 X d P C i g true HD1.out hiN hgG (by omega))
            have HPB : Hid (putP d (putP d P i g true) i g false = P) := putP_back (HFF.out rfl)
            have HCB : Hid (putC d (putC d C i g true) i g false = C) := putC_back
            have HCN := Lib.hid (HC.out.put hgG hcl6)
            have HI4 := Lib.hid (InW.of_owns HO1.out)
            clear HSN HFF
            go_wp2_with fail
            refine CP.out.mono ?_
            rintro e w5 ⟨rfl, hd2, ht2⟩
            have HD5 := Lib.hid hd2
            have HB5 : Hid (Below lo w2 w5) := HB4.out.trans (ht2.below (Nat.le_refl _) (Nat.le_trans hsl HB4.out.size))
            have HO5 := Lib.hid (owns_touch HO1.out ht2 HI4.out (.inr hhi))
            clear hd2 ht2 CP HD1 HB4 HO1 HI4
            have CC := Lib.hid (l12Count_spec lo hi2 X d (d.N - (i + 1)) (i + 1) _ _ w5 (by omega) HD5.out HCN.out)
            have hcn := HCN.out g _ hgG hcl6
            have CP2 := Lib.hid (fun wa ha => l12Put_spec wa lo hi2 X d (putP d P i g true) (putC d C i g true) i g false ha hiN hgG (by omega))
            rw [HPB.out, HCB.out] at CP2
            have HKK : Hid (cntF d (N - (i + 1)) (putP d P i g true) (putC d C i g true) (i + 1) = cntF d (d.N - (i + 1)) (putP d P i g true) (putC d C i g true) (i + 1)) := by show _ = _; rw [HND.out]
            have HI5 := Lib.hid (InW.of_owns HO5.out)
            clear HPB HCB hcn
            obtain ⟨kk, hkk⟩ : ∃ kk, cntF d (d.N - (i + 1)) (putP d P i g true) (putC d C i g true) (i + 1) = kk := ⟨_, rfl⟩
            rw [hkk] at CC HSx HKK hb2
            clear hkk
            go_wp2_with fail
            refine CC.out.mono ?_
            rintro e w6 ⟨rfl, hd3, ht3⟩
            have HD6 := Lib.hid hd3
            have HB6 : Hid (Below lo w2 w6) := HB5.out.trans (ht3.below (Nat.le_refl _) (Nat.le_trans hsl HB5.out.size))
            have HO6 := Lib.hid (owns_touch HO5.out ht3 HI5.out (.inr hhi))
            clear hd3 ht3 CC HD5 HB5 HO5 HI5
            by_cases hyk : y < kk
            · have g1 : decide ((y : Int) < (kk : Int)) = true := decide_eq_true (by omega)
              have g2 : decide (y < kk) = true := decide_eq_true hyk
              have HPg : Hid (out ++ ([((g : Nat) : Int)] ++ atF d (N - (i + 1)) (putP d P i g true) (putC d C i g true) (i + 1) (x - SS g)) = RR) := HAT.out g (by rw [HGD.out]; exact HPK.out g hlt2 (by have := HSx.out; have := HY.out; omega) HNB.out)
              have hxy : x - SS g = y := by have := HY.out; omega
              rw [hxy, ← List.append_assoc] at HPg
              have HXn : Hid (y < cntF d (N - (i + 1)) (putP d P i g true) (putC d C i g true) (i + 1)) := by show _ < _; rw [HKK.out]; exact hyk
              have hs6 : w2.heap.size ≤ w6.heap.size := HB6.out.size
              clear hxy
              go_wp2_with (at_builtin; refine wpList_pushL rfl (.tmp 48) (.tmp 50) 31 rfl w2.heap.size 3 Try.underlying31 hi hz0 hz1 hz2 rfl (by decide) [.int .i64 g] rfl (by intro u hu; simp at hu; subst hu; rfl) rfl (by show Value.slice (some ⟨_, 0, none⟩) 1 1 = _; simp) HO6.out (by unfold maxLen; omega) (by omega) hs6 ?_; intro gg9 cc9 w9 o9 g9 at9 lt9; have O9 := Lib.hid o9; have HB9 : Hid (Below w2.heap.size w6 w9) := Lib.hid ((Below.refl _ _).grown g9 hs6 (fun q hq => (HO6.out.lt q hq).1)); clear o9 g9 at9 lt9)
              have HD9 := Lib.hid (HD6.out.belowHi (by rw [HGD.out]; exact hG1) (HB9.out.mono hhi))
              have HBz : Hid (Below lo w2 w9) := HB6.out.trans (HB9.out.mono hsl)
              go_roundw
              case rel => exact ⟨i + 1, y, out ++ [(g : Int)], _, _, by omega, by go_num, rfl, by rw [List.length_append, List.length_singleton, hol], HPg, HXn, by rw [List.map_append]; exact O9, HD9, HCN, HBz⟩
              case measure => simp [RowKit.intOf]; omega
            · have g1 : decide ((y : Int) < (kk : Int)) = false := decide_eq_false (by omega)
              have g2 : decide (y < kk) = false := decide_eq_false hyk
              have HYx : Hid ((y - kk) + SS (g + 1) = x) := by show _ = _; have := HSx.out; have := HY.out; omega
              have HNx : Hid (∀ k, k < g + 1 → ¬ x < SS (k + 1)) := fun k hk => by
                by_cases e : k = g
                · rw [e]; have := HYx.out; omega
                · exact HNB.out k (by omega)
              have HI6 := Lib.hid (InW.of_owns HO6.out)
              have CPx := Lib.hid (CP2.out _ HD6.out)
              have hsub : (y : Int) - (kk : Int) = ((y - kk : Nat) : Int) := by omega
              clear CP2 HKK
              go_wp2_with fail
              refine CPx.out.mono ?_
              rintro e w7 ⟨rfl, hd4, ht4⟩
              have HD7 := Lib.hid hd4
              have HB7 : Hid (Below lo w2 w7) := HB6.out.trans (ht4.below (Nat.le_refl _) (Nat.le_trans hsl HB6.out.size))
              have HO7 := Lib.hid (owns_touch HO6.out ht4 HI6.out (.inr hhi))
              clear hd4 ht4 CPx
              go_wp2
              go_roundw
              case rel => exact ⟨g + 1, y - kk, by omega, by go_num, by first | rfl | exact congrArg (Value.int .i64) hsub, rfl, HYx, HNx, HO7, HD7, HB7⟩
              case measure => simp [RowKit.intOf]; omega
        exfalso
        obtain rfl : g = G := by omega
        have h9 := HXB.out
        have h8 := HY.out
        omega
    obtain rfl : N = i := by omega
    have HE : Hid (out = RR) := by
      have h9 := HV.out
      rw [Nat.sub_self] at h9
      show _ = _
      rw [← h9]
      exact (List.append_nil out).symm
    go_wp2
    go_ret
    rw [← HE.out]
    exact ⟨_, rfl, by rw [hol]; exact owns_mono HO.out HB2.out.size, HB2.out.trans (HBr.out.mono HLO.out)⟩
end Go.Proofs.Ytmhkkdnopcdibaa
set_option linter.unusedVariables false
namespace Go.Proofs.Ytmhkkdnopcdibaa
open Go.RowKit

theorem pots_twelve {nf : Nat} {F : Nat → TeamD} {T : List (List Int)} {gr most : Int} (hp : potsP nf F T gr most) : (drwD F T gr most).G ≤ 4 ∧ T.flatten.length ≤ 12 := by
  obtain ⟨_, hg, _, ht, hr, _⟩ := hp
  refine ⟨by show gr.toNat ≤ 4; omega, ?_⟩
  have h1 := flat_most (G := gr.toNat) T fun i hi => by have := (hr i hi).2; omega
  have h2 : T.length * gr.toNat ≤ 3 * 4 := Nat.mul_le_mul (by omega) (by omega)
  omega
theorem cdN_none (F : Nat → TeamD) (T : List (List Int)) (gr most : Int) : cdN F T gr most [] = (cntF (drwD F T gr most) T.flatten.length noP noC 0 : Nat) := by
  have h : begB (drwD F T gr most) [] noP noC = some (noP, noC) := if_pos (Nat.zero_le _)
  unfold cdN
  rw [h]
  rfl
def NthM (w : World) (R : Option (List Int)) (e : Ending) (w' : World) : Prop :=
  match R with
  | none => e = .returned (.tuple #[.slice none 0 0, .bool false]) ∧ Below w.heap.size w w'
  | some L => ∃ v, e = .returned (.tuple #[v, .bool true]) ∧ w'.ownsRow w.heap.size 3 1 v L.length (L.map (Value.int .i64)) ∧ Below w.heap.size w w'
def nthL (F : Nat → TeamD) (T : List (List Int)) (gr most c x : Int) : Option (List Int) := if 0 ≤ x ∧ x ≤ c - 1 then some (atF (drwD F T gr most) T.flatten.length noP noC 0 x.toNat) else none
set_option maxRecDepth 100000 in
set_option maxHeartbeats 4000000 in
theorem nthDraw_spec (vf : Value) (nf : Nat) (F : Nat → TeamD) (vp : Value) (gr most : Int) (T : List (List Int)) (c x : Int) (w : World) (hc : potsP nf F T gr most → c = cdN F T gr most []) (hc0 : ¬ potsP nf F T gr most → c = 0) (hf : TeamRow w vf nf F) (hs : ∀ i, (F i).nm.size ≤ maxLen) (h : RdA tIntSS w [vp] T) (hw : tIntSS.wt T ≤ 1048576) :
    Calls Try.prog 33 #[vf, .agg #[vp, .int .i64 gr, .int .i64 most], .int .i64 x] w (NthM w (nthL F T gr most c x)) := by
  obtain ⟨pa, pc, rfl, hpn⟩ := pots_form h
  obtain ⟨U, hU⟩ : ∃ U, w.alloc (.cells #[.slice pa (List.length (α := List Int) T) pc, .int .i64 gr, .int .i64 most] 26) = U := ⟨_, rfl⟩
  have bU : Below w.heap.size w U := by rw [← hU]; exact (Below.refl _ _).alloc (Nat.le_refl _) _
  have HS : Hid (PotsAt U w.heap.size pa (List.length (α := List Int) T) pc gr most T) := by rw [← hU]; exact PotsAt.made h
  have HB := Lib.hid bU
  have HF : Hid (TeamRow U vf nf F) := hf.below bU (Nat.le_refl _)
  have CF := Lib.hid (countDraws_spec l12New_spec vf nf F (.slice pa (List.length (α := List Int) T) pc) gr most T (.slice none 0 0) [] c U hc hc0 HF.out hs HS.out.2 hw (.inl ⟨none, 0, rfl, rfl⟩))
  have CA : Hid (∀ (y : Nat) (wa : World), potsP nf F T gr most → y < cntF (drwD F T gr most) T.flatten.length noP noC 0 → TeamRow wa vf nf F → RdA tIntSS wa [.slice pa (List.length (α := List Int) T) pc] T → Calls Try.prog 68 #[vf, .agg #[.slice pa (List.length (α := List Int) T) pc, .int .i64 gr, .int .i64 most], .int .i64 y] wa (IntsL wa (atF (drwD F T gr most) T.flatten.length noP noC 0 y))) := fun y wa h1 h2 h3 h4 => l12At_spec _ _ _ _ _ _ _ y wa h1 h2 h3 h4 hw
  have hcb : 0 ≤ c ∧ c ≤ 67108864 := by
    by_cases hp : potsP nf F T gr most
    · rw [hc hp, cdN_none]
      obtain ⟨h1, h2⟩ := pots_twelve hp
      have h3 := cntF_le (drwD F T gr most) h1 T.flatten.length noP noC 0
      have h5 : 4 ^ T.flatten.length ≤ 4 ^ 12 := Nat.pow_le_pow_right (by decide) h2
      have h6 : 4 ^ 12 ≤ 67108864 := by decide
      omega
    · rw [hc0 hp]; omega
  have HXR : Hid (0 ≤ x ∧ x ≤ c - 1 → potsP nf F T gr most ∧ x.toNat < cntF (drwD F T gr most) T.flatten.length noP noC 0) := fun hx => by
    by_cases hp : potsP nf F T gr most
    · refine ⟨hp, ?_⟩
      rw [hc hp, cdN_none] at hx
      omega
    · rw [hc0 hp] at hx; omega
  obtain ⟨r2, hr2⟩ := boolEx (0 ≤ x ∧ x ≤ c - 1)
  have HR2 := Lib.hid hr2
  have CI : Hid (∀ wa, Calls Try.prog 58 #[.int .i64 x, .int .i64 0, .int .i64 (c - 1)] wa fun e w' => e = .returned (.bool r2) ∧ wa = w') := fun wa => by
    cases r2 with
    | true => exact (l01In_yes _ _ _ _ (hr2.1 rfl)).mono fun e w' h => h
    | false => exact (l01In_no _ _ _ _ (fun h => by have := hr2.2 h; cases this)).mono fun e w' h => h
  have HNL : Hid (nthL F T gr most c x = if 0 ≤ x ∧ x ≤ c - 1 then some (atF (drwD F T gr most) T.flatten.length noP noC 0 x.toNat) else none) := rfl
  obtain ⟨RR, hRR⟩ : ∃ RR, nthL F T gr most c x = RR := ⟨_, rfl⟩
  rw [hRR] at HNL ⊢
  obtain ⟨np, hnp⟩ : ∃ np, List.length (α := List Int) T = np := ⟨_, rfl⟩
  rw [hnp] at hU HS CF CA ⊢
  have c0 := HS.out.1.2 0 _ rfl
  have c1 := HS.out.1.2 1 _ rfl
  have c2 := HS.out.1.2 2 _ rfl
  clear h hf hc hc0 hr2 bU hw hs hnp hpn hRR
  go_enter Try.func33, Try.ntmps33
  go_wp2_with fail
  clear hU c0 c1 c2
  refine CF.out.mono ?_
  rintro e w1 ⟨rfl, b⟩
  have HS1 := Lib.hid (HS.out.below b)
  have HF1 := Lib.hid (HF.out.below b (Nat.le_refl _))
  have HB1 := Lib.hid (HB.out.trans (b.mono HB.out.size))
  clear b HS HB CF HF
  have c0 := HS1.out.1.2 0 _ rfl
  have c1 := HS1.out.1.2 1 _ rfl
  have c2 := HS1.out.1.2 2 _ rfl
  go_wp2_with fail
  refine (CI.out _).mono ?_
  rintro e wx ⟨rfl, rfl⟩
  cases r2 with
  | false =>
    have HRx : Hid (RR = none) := by show _ = _; rw [HNL.out, if_neg (fun h => by have := HR2.out.2 h; cases this)]
    go_wp2
    refine bodyPost_ret (v := .tuple #[.slice none 0 0, .bool false]) (by simp [results, Try.results33, go_sem]) rfl ?_
    rw [HRx.out]
    exact ⟨rfl, HB1.out⟩
  | true =>
    have hx := HR2.out.1 (by first | rfl | trivial)
    have HRx : Hid (RR = some (atF (drwD F T gr most) T.flatten.length noP noC 0 x.toNat)) := by show _ = _; rw [HNL.out, if_pos hx]
    obtain ⟨hp, hxc⟩ := HXR.out hx
    obtain ⟨y, rfl⟩ : ∃ y : Nat, x = y := ⟨x.toNat, by omega⟩
    rw [Int.toNat_natCast] at HRx hxc
    have CA1 := Lib.hid (CA.out y w1 hp hxc HF1.out HS1.out.2)
    clear hp hxc hx CA HXR HNL HR2
    generalize atF (drwD F T gr most) T.flatten.length noP noC 0 y = LL at *
    go_wp2_with fail
    refine CA1.out.mono ?_
    rintro e w3 ⟨v, rfl, ho, b⟩
    have HO3 := Lib.hid ho
    have HB3 := Lib.hid (HB1.out.trans (b.mono HB1.out.size))
    have HSZ : Hid (w.heap.size ≤ w1.heap.size) := HB1.out.size
    clear ho b CA1 c0 c1 c2
    go_wp2
    refine bodyPost_ret (v := .tuple #[v, .bool true]) (by simp [results, Try.results33, go_sem]) rfl ?_
    rw [HRx.out]
    exact ⟨v, rfl, owns_mono HO3.out HSZ.out, HB3.out⟩
end Go.Proofs.Ytmhkkdnopcdibaa
