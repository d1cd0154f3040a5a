/-
  The law FnCorrections holds for every argument: the program answers as the model does.
-/
import Derived.Test.YtojkonhhaamodaaRows
import Derived.WalkKit
import Derived.ProofKit
import Derived.OpenShut
import Derived.ShutString
import Derived.ChangeOld
import Derived.Below
import Derived.Lib.Hide
import Derived.Test.YtojkonhhaamodaaQ6
import Derived.Test.YtojkonhhaamodaaQ15
import Derived.Test.YtojkonhhaamodaaQ17
import Derived.Test.YtojkonhhaamodaaQ18
namespace Go.Proofs.Ytojkonhhaamodaa.fnCorrections
open Go.ChangeShapes Go.WideShapes Go.ChangeAt Go.RowKit
open Go.ChangeMaps (open_string shut_string)
set_option linter.unusedVariables false

theorem own : ownKnob Try.prog.godebug = none := by kernel_rfl
theorem laidOut : laidOutB Try.prog = true := by kernel_rfl
theorem note_fit {n : Int} {m : Nat} {g : Nat → GameD} {LN : List NoteD} (h : notesP n m g LN.length (getN' LN)) : ∀ i, (getN' LN i).fit := fun i => by
  by_cases hi : i < LN.length
  · have hm := h.1.1
    obtain ⟨⟨h1, h2⟩, ⟨h3, h4⟩, ⟨⟨h5, h6⟩, ⟨h7, h7'⟩, ⟨h8, h8'⟩, _, ⟨h9, h9'⟩, h10⟩, _⟩ := (h.2.2 i hi).1
    generalize getN' LN i = y at *
    refine ⟨⟨by omega, by omega⟩, ⟨by omega, by omega⟩, ⟨by omega, by omega⟩, ⟨by omega, by omega⟩, ?_, ?_, ⟨by omega, by omega⟩⟩
    · rcases h10 with ⟨_, h11, _⟩ | ⟨_, h11, _⟩
      · exact ⟨by omega, by omega⟩
      · rw [h11]; exact ⟨by omega, by omega⟩
    · rcases h10 with ⟨_, _, h11⟩ | ⟨_, _, h11⟩
      · exact ⟨by omega, by omega⟩
      · rw [h11]; exact ⟨by omega, by omega⟩
  · have : getN' LN i = ⟨0, 0, ⟨0, 0, 0, 0, 0⟩⟩ := by simp [getN', List.getD_eq_getElem?_getD, List.getElem?_eq_none (Nat.le_of_not_lt hi)]; rfl
    rw [this]
    refine ⟨?_, ?_, ?_, ?_, ?_, ?_, ?_⟩ <;> exact ⟨by decide, by decide⟩

set_option maxRecDepth 100000 in
set_option maxHeartbeats 2000000 in
theorem walk (a : Option Addr) (len cap : Nat) (zs : List Int) (w : World) (hr : IsRow .u8 w a len cap zs) :
    Calls Try.prog 4 #[.slice a len cap] w fun e w' => e = .returned (.bool true) ∧ Below w.heap.size w w' := by
  obtain ⟨hrow, hsm, hfit⟩ := hr.bytes
  clear hr
  generalize getN zs = g at *
  by_cases hl : 1048576 < len
  · have g0 : decide ((1048576 : Int) < (len : Int)) = true := decide_eq_true (by omega)
    clear hrow hsm
    go_enter Try.func4, Try.ntmps4
    go_wp2
    go_ret
    exact ⟨rfl, Below.refl _ _⟩
  have g0 : decide ((1048576 : Int) < (len : Int)) = false := decide_eq_false (by omega)
  have hle : len ≤ 1048576 := by omega
  have CM := Lib.hid (makeNotes_any a len cap g w hrow hsm hle)
  have CN := Lib.hid (fun wa h => makeNum_any a len cap 60 g wa h hsm hle (by omega))
  have HROW := Lib.hid hrow
  clear hrow hsm
  go_enter Try.func4, Try.ntmps4
  go_wp2_with fail
  refine CM.out.mono ?_
  rintro e w1 ⟨n, b, LG, m, LN, s, vf, vl, vg, vfa, vta, nv, lv, ⟨hn2, hn4⟩, rfl, hgood, hL, hLl, hG, hLN, hBK, hvg, hnv, b1⟩
  obtain ⟨a1, c1, e1⟩ : ∃ a c, vf = .slice a n c := by obtain ⟨⟨xf, k1, _⟩, _⟩ := hBK; exact owns_form k1
  obtain ⟨a2, c2, e2⟩ := owns_form hBK.2.1
  obtain ⟨a3, c3, e3⟩ := owns_form hvg
  obtain ⟨a4, c4, e4⟩ := owns_form hBK.2.2.1
  obtain ⟨a5, c5, e5⟩ := owns_form hBK.2.2.2
  obtain ⟨a6, c6, e6⟩ := owns_form hnv
  subst e1 e2 e3 e4 e5 e6
  have SS := sea_season hL hn2 (by omega) (by omega)
  have NP : notesP n LG.length (getG LG) LN.length (getN' LN) := ⟨SS, by omega, fun i hi => ⟨(hG.1 _ (mem_getN.1 ⟨i, hi, rfl⟩)).1, fun j hj e => hG.2 _ (mem_getN.1 ⟨j, by omega, rfl⟩) _ (mem_getN.1 ⟨i, hi, rfl⟩) e⟩⟩
  have HNP := Lib.hid NP
  have HFIT := Lib.hid (note_fit NP)
  have HL32 : LG.length ≤ 32 := by omega
  have bx := BoxN.made (u := w1) (cs := #[.slice a1 n c1, .int .i64 b.win, .int .i64 1, .int .i64 0, .slice a2 b.lad.length c2, .bool b.ag, .slice a3 LG.length c3, .slice a4 b.fair.length c4, .slice a5 b.taken.length c5]) (t := 29) (w2 := w1.alloc (.cells #[.slice a1 n c1, .int .i64 b.win, .int .i64 1, .int .i64 0, .slice a2 b.lad.length c2, .bool b.ag, .slice a3 LG.length c3, .slice a4 b.fair.length c4, .slice a5 b.taken.length c5] 29)) (Below.refl _ _) (B := w1.heap.size) rfl
  have g1 : Below w1.heap.size w1 (w1.alloc (.cells #[.slice a1 n c1, .int .i64 b.win, .int .i64 1, .int .i64 0, .slice a2 b.lad.length c2, .bool b.ag, .slice a3 LG.length c3, .slice a4 b.fair.length c4, .slice a5 b.taken.length c5] 29)) := (Below.refl _ _).alloc (Nat.le_refl _) _
  have BX := Lib.hid bx
  have GR := Lib.hid ((GameRow.of_list hvg (by omega)).below g1 (Nat.le_refl _))
  have NR := Lib.hid ((NoteRow.of_owns hnv (by omega) (notes_cells LN)).below g1 (Nat.le_refl _))
  have HB := Lib.hid (b1.trans (g1.mono b1.size))
  clear hgood hL hLl hG hBK hvg hnv b1 SS NP bx g1 CM
  have d0 := BX.out.2 0 _ rfl
  go_wp2_with fail
  refine (CN.out _ (HROW.out.below HB.out (Nat.le_refl _))).mono ?_
  rintro e w2 ⟨⟨x, hx, rfl⟩, b2⟩
  have BX2 := Lib.hid (BX.out.below b2)
  have GR2 := Lib.hid (GR.out.below b2 (Nat.le_refl _))
  have NR2 := Lib.hid (NR.out.below b2 (Nat.le_refl _))
  have HB2 := Lib.hid (HB.out.trans (b2.mono HB.out.size))
  clear d0 BX GR NR HB b2 CN HROW
  generalize hD : w1.heap.size = D at *
  clear hD
  obtain ⟨z, hz⟩ : ∃ z : Nat, (x : Int) % 12 = z := ⟨((x : Int) % 12).toNat, by omega⟩
  have hz12 : z < 12 := by omega
  obtain ⟨K, hK⟩ : ∃ K, upL (getN' LN) z LN.length = K := ⟨_, rfl⟩
  have hKn : K.length ≤ LN.length := by rw [← hK]; exact up_len _ _ _
  have HKP : Hid (notesP n LG.length (getG LG) K.length (getN' K)) := by rw [← hK]; exact HNP.out.up z
  have HKF := Lib.hid (note_fit HKP.out)
  have HKS : Hid (∀ i : Int, serialN (getN' K) i K.length ≤ z) := by rw [← hK]; exact fun i => up_serial (by omega) i
  have HKC : Hid (∀ i : Int, corrN (getN' K) i K.length ≤ corrN (getN' LN) i LN.length) := by rw [← hK]; exact fun i => corr_up _ _ i _
  have CU := Lib.hid (fun wa h => upTo_impl (.slice a6 LN.length c6) LN.length (getN' LN) z wa h (by omega))
  rw [hK] at CU
  have CA := Lib.hid (fun uv wa h1 h2 => applyNotes_impl n (.slice a3 LG.length c3) LG.length (getG LG) uv K.length (getN' K) true wa HKF.out ⟨fun _ => HKP.out, fun _ => rfl⟩ h1 h2)
  have CK := Lib.hid (fun uv wa h1 h2 => notesOk_impl n (.slice a3 LG.length c3) LG.length (getG LG) uv K.length (getN' K) true wa HKF.out ⟨fun _ => HKP.out, fun _ => rfl⟩ h1 h2)
  have CS := Lib.hid (fun uv (i : Int) wa h => serialOf_impl uv K.length (getN' K) i wa h)
  have CC1 := Lib.hid (fun uv (i : Int) wa h => corrections_impl uv K.length (getN' K) i wa HKF.out h (by omega))
  have CC2 := Lib.hid (fun (i : Int) wa h => corrections_impl (.slice a6 LN.length c6) LN.length (getN' LN) i wa HFIT.out h (by omega))
  clear hK
  go_wp2_with fail
  have HZ := Lib.hid hz
  clear hz hx
  refine (CU.out _ NR2.out).mono ?_
  rintro e w3 ⟨uv, rfl, ho, b3⟩
  obtain ⟨a7, c7, e7⟩ := owns_form ho
  subst e7
  have UR3 := Lib.hid (NoteRow.of_owns ho (by omega) (notes_cells K))
  have BX3 := Lib.hid (BX2.out.below b3)
  have GR3 := Lib.hid (GR2.out.below b3 (Nat.le_refl _))
  have NR3 := Lib.hid (NR2.out.below b3 (Nat.le_refl _))
  have HB3 := Lib.hid (HB2.out.trans (b3.mono HB2.out.size))
  clear ho BX2 GR2 NR2 HB2 b3 CU
  have d2 := BX3.out.2 6 _ rfl
  go_wp2_with fail
  refine (CA.out _ _ GR3.out UR3.out).mono ?_
  rintro e w4 (⟨hc, _⟩ | ⟨_, xv, xs, rfl, hox, hcx, b4⟩)
  case inl => cases hc
  obtain ⟨a8, c8, e8⟩ := owns_form hox
  subst e8
  have XR4 := Lib.hid (show GameRow w4 (.slice a8 LG.length c8) LG.length (fun i => applyN (getG LG) (canonL (getN' K) K.length) (canonL (getN' K) K.length).length i) from RecRow.of_owns hox (by omega) hcx (fun _ _ => Nat.le_refl _))
  have HAP : Hid (∀ (i q : Nat), q < K.length → (getN' K q).game = (i : Int) → (getN' K q).serial = serialN (getN' K) i K.length → applyN (getG LG) (canonL (getN' K) K.length) (canonL (getN' K) K.length).length i = (getN' K q).res) := fun i q h1 h2 h3 => apply_last HKP.out i q h1 h2 h3
  generalize applyN (getG LG) (canonL (getN' K) K.length) (canonL (getN' K) K.length).length = XG at *
  have BX4 := Lib.hid (BX3.out.below b4)
  have GR4 := Lib.hid (GR3.out.below b4 (Nat.le_refl _))
  have NR4 := Lib.hid (NR3.out.below b4 (Nat.le_refl _))
  have UR4 := Lib.hid (UR3.out.below b4 (Nat.le_refl _))
  have HB4 := Lib.hid (HB3.out.trans (b4.mono HB3.out.size))
  clear hox hcx d2 BX3 GR3 NR3 UR3 HB3 b4 CA
  have d2 := BX4.out.2 6 _ rfl
  go_wp2_with fail
  refine (CK.out _ _ GR4.out UR4.out).mono ?_
  rintro e w5 ⟨rfl, b5⟩
  have BX5 := Lib.hid (BX4.out.below b5)
  have NR5 := Lib.hid (NR4.out.below b5 (Nat.le_refl _))
  have UR5 := Lib.hid (UR4.out.below b5 (Nat.le_refl _))
  have XR5 := Lib.hid (XR4.out.below b5 (Nat.le_refl _))
  have HB5 := Lib.hid (HB4.out.trans (b5.mono HB4.out.size))
  clear d2 BX4 GR4 NR4 UR4 XR4 HB4 b5 CK
  have d2 := BX5.out.2 6 _ rfl
  have hm64 : (LG.length : Int) ≤ 9223372036854775807 := by omega
  go_wp2
  clear d2
  go_loopw [61] (fun iv wr => ∃ i : Nat, i ≤ LG.length ∧ iv = .int .i64 i ∧ Hid (NoteRow wr (.slice a6 LN.length c6) LN.length (getN' LN)) ∧ Hid (NoteRow wr (.slice a7 K.length c7) K.length (getN' K)) ∧ Hid (GameRow wr (.slice a8 LG.length c8) LG.length XG) ∧ Hid (Below w.heap.size w wr)) (fun iv _ => LG.length - (intOf iv).toNat)
  case atStart => exact ⟨0, Nat.zero_le _, rfl, NR5, UR5, XR5, HB5⟩
  case round =>
    clear NR5 UR5 XR5 HB5 BX5
    obtain ⟨i, hi, rfl, NR, UR, XR, HB⟩ := hrel
    by_cases hlt : i < LG.length
    · have hlt' : (i : Int) < LG.length := by omega
      go_wp2_with fail
      refine (CS.out _ (i : Int) _ UR.out).mono ?_
      rintro e w6 ⟨rfl, b6⟩
      have NR6 := Lib.hid (NR.out.below b6 (Nat.le_refl _))
      have UR6 := Lib.hid (UR.out.below b6 (Nat.le_refl _))
      have XR6 := Lib.hid (XR.out.below b6 (Nat.le_refl _))
      have HB6 := Lib.hid (HB.out.trans (b6.mono HB.out.size))
      clear NR UR XR HB b6
      have hsz := HKS.out i
      have hcc := HKC.out i
      have HAPi := Lib.hid (HAP.out i)
      generalize serialN (getN' K) (i : Int) K.length = sv at *
      have g3 : decide ((x : Int) % 12 < sv) = false := decide_eq_false (by have := HZ.out; omega)
      go_wp2_with fail
      refine (CC1.out _ (i : Int) _ UR6.out).mono ?_
      rintro e w7 ⟨rfl, b7⟩
      have NR7 := Lib.hid (NR6.out.below b7 (Nat.le_refl _))
      have UR7 := Lib.hid (UR6.out.below b7 (Nat.le_refl _))
      have XR7 := Lib.hid (XR6.out.below b7 (Nat.le_refl _))
      have HB7 := Lib.hid (HB6.out.trans (b7.mono HB6.out.size))
      clear NR6 UR6 XR6 HB6 b7
      go_wp2_with fail
      refine (CC2.out (i : Int) _ NR7.out).mono ?_
      rintro e w8 ⟨rfl, b8⟩
      have NR8 := Lib.hid (NR7.out.below b8 (Nat.le_refl _))
      have UR8 := Lib.hid (UR7.out.below b8 (Nat.le_refl _))
      have XR8 := Lib.hid (XR7.out.below b8 (Nat.le_refl _))
      have HB8 := Lib.hid (HB7.out.trans (b8.mono HB7.out.size))
      clear NR7 UR7 XR7 HB7 b8
      generalize corrN (getN' K) (i : Int) K.length = u1 at *
      generalize corrN (getN' LN) (i : Int) LN.length = u2 at *
      have g4 : decide ((u2 : Int) < u1) = false := decide_eq_false (by omega)
      have g5 : decide (u2 < u1) = false := decide_eq_false (by omega)
      go_wp2
      clear g3 g4 g5 hcc
      have hK64 : (K.length : Int) ≤ 9223372036854775807 := by omega
      go_loopw [81] (fun jv wr => ∃ j : Nat, j ≤ K.length ∧ jv = .int .i64 j ∧ Hid (NoteRow wr (.slice a6 LN.length c6) LN.length (getN' LN)) ∧ Hid (NoteRow wr (.slice a7 K.length c7) K.length (getN' K)) ∧ Hid (GameRow wr (.slice a8 LG.length c8) LG.length XG) ∧ Hid (Below w.heap.size w wr)) (fun jv _ => K.length - (intOf jv).toNat)
      case atStart => exact ⟨0, Nat.zero_le _, rfl, NR8, UR8, XR8, HB8⟩
      case round =>
        clear NR8 UR8 XR8 HB8
        obtain ⟨j, hj, rfl, NR, UR, XR, HB⟩ := hrel
        by_cases hltj : j < K.length
        · have HLj := Lib.hid (show j < K.length from hltj)
          have hltj' : (j : Int) < K.length := by omega
          obtain ⟨aa, cap', he, _, hcr⟩ := UR.out.form
          obtain ⟨ub, uo, rfl, hcap', hcc⟩ := hcr (by omega)
          simp only [Value.slice.injEq, true_and] at he
          obtain ⟨rfl, rfl⟩ := he
          obtain ⟨r0, r1, r2, r3, r4, r5, r6⟩ := note_cells (hcc j hltj)
          have hAPj : Hid ((getN' K j).game = (i : Int) → (getN' K j).serial = sv → XG i = (getN' K j).res) := HAPi.out j hltj
          clear hcr hcc
          generalize getN' K j = y at *
          have al : Below wr.heap.size wr (wr.alloc (.cells #[.int .i64 y.serial, .int .i64 y.game, .int .i64 y.res.home, .int .i64 y.res.away, .int .i64 y.res.hg, .int .i64 y.res.ag, .int .i64 y.res.st] 39)) := (Below.refl _ _).alloc (Nat.le_refl _) _
          have YX := Lib.hid (BoxN.made (u := wr) (cs := #[.int .i64 y.serial, .int .i64 y.game, .int .i64 y.res.home, .int .i64 y.res.away, .int .i64 y.res.hg, .int .i64 y.res.ag, .int .i64 y.res.st]) (t := 39) (w2 := wr.alloc (.cells #[.int .i64 y.serial, .int .i64 y.game, .int .i64 y.res.home, .int .i64 y.res.away, .int .i64 y.res.hg, .int .i64 y.res.ag, .int .i64 y.res.st] 39)) (Below.refl _ _) (B := wr.heap.size) rfl)
          have NRn := Lib.hid (NR.out.below al (Nat.le_refl _))
          have URn := Lib.hid (UR.out.below al (Nat.le_refl _))
          have XRn := Lib.hid (XR.out.below al (Nat.le_refl _))
          have HBn := Lib.hid (HB.out.trans (al.mono HB.out.size))
          clear NR UR XR HB al
          go_wp2
          clear r0 r1 r2 r3 r4 r5 r6
          generalize hY : wr.heap.size = Y at *
          clear hY
          generalize wr.alloc (.cells #[.int .i64 y.serial, .int .i64 y.game, .int .i64 y.res.home, .int .i64 y.res.away, .int .i64 y.res.hg, .int .i64 y.res.ag, .int .i64 y.res.st] 39) = wn at *
          have y0 := YX.out.2 0 _ rfl
          have y1 := YX.out.2 1 _ rfl
          have y2 := YX.out.2 2 _ rfl
          have y3 := YX.out.2 3 _ rfl
          have y4 := YX.out.2 4 _ rfl
          have y5 := YX.out.2 5 _ rfl
          have y6 := YX.out.2 6 _ rfl
          by_cases k1 : y.game = (i : Int)
          case neg =>
            have q1 : (y.game == (i : Int)) = false := beq_eq_false_iff_ne.2 k1
            clear k1
            go_quiet (fail)
            go_wp2
            go_roundw
            case rel => exact ⟨j + 1, by omega, by go_num, NRn.out.below (below_drewN (Below.refl _ _) _) (Nat.le_refl _), URn.out.below (below_drewN (Below.refl _ _) _) (Nat.le_refl _), XRn.out.below (below_drewN (Below.refl _ _) _) (Nat.le_refl _), below_drewN HBn.out _⟩
            case measure => simp [intOf]; omega
          have q1 : (y.game == (i : Int)) = true := beq_iff_eq.2 k1
          by_cases k2 : y.serial = sv
          case neg =>
            have q2 : (y.serial == sv) = false := beq_eq_false_iff_ne.2 k2
            have K1 := Lib.hid k1
            clear k1 k2
            go_quiet (fail)
            go_wp2
            go_roundw
            case rel => exact ⟨j + 1, by omega, by go_num, NRn.out.below (below_drewN (Below.refl _ _) _) (Nat.le_refl _), URn.out.below (below_drewN (Below.refl _ _) _) (Nat.le_refl _), XRn.out.below (below_drewN (Below.refl _ _) _) (Nat.le_refl _), below_drewN HBn.out _⟩
            case measure => simp [intOf]; omega
          have q2 : (y.serial == sv) = true := beq_iff_eq.2 k2
          have hxe := hAPj.out k1 k2
          obtain ⟨xa, xcap, he2, _, hcx⟩ := RecRow.form XRn.out
          obtain ⟨xb, xo, rfl, hxcap, hcc2⟩ := hcx (by omega)
          simp only [Value.slice.injEq, true_and] at he2
          obtain ⟨rfl, rfl⟩ := he2
          have hx5 := hcc2 i hlt
          rw [hxe] at hx5
          obtain ⟨x0, x1, x2, x3, x4⟩ := game_cells hx5
          have K1 := Lib.hid k1
          have K2 := Lib.hid k2
          clear hcx hcc2 hx5 hxe k1 k2
          go_quiet (fail)
          go_wp2
          go_roundw
          case rel => exact ⟨j + 1, by omega, by go_num, NRn.out.below (below_drewN (Below.refl _ _) _) (Nat.le_refl _), URn.out.below (below_drewN (Below.refl _ _) _) (Nat.le_refl _), XRn.out.below (below_drewN (Below.refl _ _) _) (Nat.le_refl _), below_drewN HBn.out _⟩
          case measure => simp [intOf]; omega
        · obtain rfl : j = K.length := by omega
          go_wp2
          go_roundw
          case rel => exact ⟨i + 1, by omega, by go_num, NR, UR, XR, HB⟩
          case measure => simp [intOf]; omega
    · obtain rfl : i = LG.length := by omega
      go_wp2
      go_ret
      exact ⟨rfl, HB.out⟩

set_option maxRecDepth 100000 in
theorem lifted (os : Os) (started : os.Started) (H : Type) (enc : TypeId × Value → H) :
    ReturnsInHanded {} Try.checked os 4 .any (Rows.fnCorrectionsSpec.pre6 enc Try.prog Try.f4 Rows.fnCorrectionsRow.domain false) (Rows.fnCorrectionsSpec.post enc Try.prog Try.f4 false true false false) := by
  refine returnsInHanded_of_change (C := Try.checked) own started (by kernel_rfl) Try.func4
    (ChangeSpec.witness6 (enc := enc) (C := Try.checked) false ⟨#[], #[.slice none 0 0], []⟩ 8 (by kernel_rfl) (by kernel_rfl) (by kernel_rfl) (by kernel_rfl)) ?_
  intro W base args ds gs before hval0 hW hcnd _
  have hval : ∀ (j : Nat) t v, Try.f4.params[j]? = some t → args[j]? = some v → Value.okWide Try.prog W .any base t v := hval0
  have hW' := hW
  obtain ⟨p, q, hA0, hV, rfl, hfz, hnd⟩ := hW
  have hA : DataW.TrodAll enc Try.prog W 0 (fun _ => true) true Try.f4.params.toList args.toList ds p := hA0
  rw [Try.params4] at hA hval
  obtain ⟨v0, vs0, d0, ds0, p0, q0, hargs, rfl, rfl, h0, r0⟩ := trodAll_cons hA
  obtain ⟨rfl, rfl, rfl⟩ := trodAll_nil r0
  obtain rfl : args = #[v0] := by cases args; simp_all
  obtain ⟨rfl, rfl⟩ := trodVars_none hV
  have k0 := h0
  have lt0 : ∀ x ∈ p0, x.block < W.heap.size := by obtain ⟨m, hm⟩ := k0; exact DataW.trod_lt m _ _ _ hm
  obtain ⟨a0, len0, cap0, rfl⟩ := okWide_slice Try.underlying22 (hval 0 22 v0 rfl rfl)
  obtain ⟨z0, w0⟩ : ∃ zs, IsRow .u8 W a0 len0 cap0 zs := by
    obtain ⟨fuel, hf⟩ := h0
    rcases open_ints Try.underlying22 Try.underlying5 (by kernel_rfl) hf with ⟨hcs, _⟩ | ⟨x, l, c, zs, hcs, _, hl, hm, hz, _, hcell, hwz⟩
    · simp [Value.cells] at hcs
      obtain ⟨rfl, rfl, rfl⟩ := hcs
      exact ⟨[], .inl ⟨rfl, rfl, rfl, rfl⟩⟩
    · simp [Value.cells] at hcs
      obtain ⟨rfl, rfl, rfl⟩ := hcs
      exact ⟨zs, .inr ⟨_, rfl, hl, hm, by simpa using hz, hcell, hwz⟩⟩
  clear hA0 hval0
  simp only [List.append_nil] at hW'
  refine (walk a0 len0 cap0 z0 W w0).mono fun e W' ⟨he, bel⟩ => ?_
  subst he
  exact ⟨_, rfl, _, _, _, [], _, [], hW', trodAll_mk1 (shut_bool Try.underlying4 _), (trodAll_cons_mk (Below.trod laidOut (by kernel_rfl) (of_decide_eq_true (by kernel_rfl)) k0 bel lt0) trodAll_mk0), rfl, bel.frame _, fun h => by cases h⟩

theorem over : Rows.fnCorrectionsRow.holds Try.pinned (OpenSpec.ofChange Rows.fnCorrectionsSpec) :=
  OpenClaim.holds_of_wide 4 Try.f4 rfl rfl rfl rfl rfl rfl rfl ⟨rfl, rfl, rfl, rfl, rfl⟩ rfl rfl rfl rfl rfl (by kernel_rfl) Try.func4 (by kernel_rfl)
    (of_decide_eq_true (by kernel_rfl)) (by unfold Func.isWrapper; first | (rw [if_pos (by decide +kernel)]; kernel_rfl) | (rw [if_neg (by decide +kernel)]; exact ⟨rfl, rfl⟩))
    (fun os started H enc _ => lifted os started H enc)

theorem proved : Rows.FnCorrectionsSaid := over
end Go.Proofs.Ytojkonhhaamodaa.fnCorrections
