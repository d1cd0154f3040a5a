/-
  Packed: DrawLaw2.
-/
import Derived.Test.YtmhkkdnopcdibaaQ23
set_option linter.unusedVariables false
namespace Go.Proofs.Ytmhkkdnopcdibaa
open Go.RowKit

theorem getI_rangeD {G g : Nat} {f : Nat → Int} (hg : g < G) : getI ((List.range G).map f) g = f g := by simp [getI, hg]
set_option maxRecDepth 100000 in
set_option maxHeartbeats 4000000 in
theorem chances_walk (a : Option Addr) (len cap : Nat) (zs : List Int) (CI : DrwImpl) (w : World) (hr : IsRow .u8 w a len cap zs) :
    Calls Try.prog 4 #[.slice a len cap] w fun e w' => e = .returned (.bool true) ∧ Below w.heap.size w w' := by
  obtain ⟨hrow, hsm, hfit⟩ := hr.bytes
  clear hr
  generalize getN zs = g at *
  by_cases hl : 1048576 < len
  · have g0 : decide ((1048576 : Int) < (len : Int)) = true := decide_eq_true (by omega)
    clear hrow hsm
    go_enter Try.func4, Try.ntmps4
    go_wp2
    go_ret
    exact ⟨rfl, Below.refl _ _⟩
  have g0 : decide ((1048576 : Int) < (len : Int)) = false := decide_eq_false (by omega)
  have hle : len ≤ 1048576 := by omega
  have CM := Lib.hid (makePots_any a len cap g w hrow hsm hle)
  clear hrow hsm
  go_enter Try.func4, Try.ntmps4
  go_wp2_with fail
  refine CM.out.mono ?_
  rintro e w1 ⟨vf, vp, G, M, nf, T, F, rfl, hG, hpots, hsz, hwt, hfield, hrd, b1⟩
  obtain ⟨pa, pc, rfl, _⟩ := pots_form hrd
  obtain ⟨fa, fc, rfl, _, _⟩ := hfield.form'
  have HF := draws_facts hpots (G := G) rfl
  have HCF := fun k j hk hj => chances_facts hpots (G := G) rfl k j hk hj
  have hnone := HF.none
  have hc67 := HF.small
  have hbeg := HF.beg 0 (by omega)
  clear HF
  generalize cntF (drwD F T (G : Int) (M : Int)) T.flatten.length noP noC 0 = c at *
  obtain ⟨t0, ht0⟩ : ∃ t0 : Nat, cdN F T (G : Int) (M : Int) [((0 : Nat) : Int)] = (t0 : Int) := ⟨_, hbeg⟩
  clear hbeg
  obtain ⟨U, hU⟩ : ∃ U, w1.alloc (.cells #[.slice pa (List.length (α := List Int) T) pc, .int .i64 (G : Int), .int .i64 (M : Int)] 26) = U := ⟨_, rfl⟩
  have HS : Hid (PotsAt U w1.heap.size pa (List.length (α := List Int) T) pc (G : Int) (M : Int) T) := by rw [← hU]; exact PotsAt.made hrd
  have bU : Below w1.heap.size w1 U := by rw [← hU]; exact (Below.refl _ _).alloc (Nat.le_refl _) _
  obtain ⟨np, hnp⟩ : ∃ np, List.length (α := List Int) T = np := ⟨_, rfl⟩
  have HNP : Hid (T.length = np) := hnp
  rw [hnp] at hU HS ⊢
  have HK : Hid (DK w w1.heap.size (.slice fa nf fc) nf F pa np pc (G : Int) (M : Int) T U) := ⟨hfield.below bU (Nat.le_refl _), HS.out, b1.trans (bU.mono b1.size)⟩
  have KO : Hid (∀ X wa, DK w X (.slice fa nf fc) nf F pa np pc (G : Int) (M : Int) T wa → Calls Try.prog 14 #[.slice fa nf fc, .agg #[.slice pa np pc, .int .i64 (G : Int), .int .i64 (M : Int)]] wa fun e w' => e = .returned (.bool true) ∧ Below wa.heap.size wa w') := fun X wa h =>
    CI.ok _ _ _ _ _ _ _ true wa ⟨fun _ => hpots, fun _ => rfl⟩ h.1 hsz h.2.1.2 hwt
  have KC : Hid (∀ X wa, DK w X (.slice fa nf fc) nf F pa np pc (G : Int) (M : Int) T wa → Calls Try.prog 13 #[.slice fa nf fc, .agg #[.slice pa np pc, .int .i64 (G : Int), .int .i64 (M : Int)], .slice none 0 0] wa fun e w' => e = .returned (.int .i64 (c : Int)) ∧ Below wa.heap.size wa w') := fun X wa h =>
    CI.cnt _ _ _ _ _ _ _ _ [] (c : Int) wa (fun _ => hnone.symm) (fun hn => absurd hpots hn) h.1 hsz h.2.1.2 hwt (.inl ⟨none, 0, rfl, rfl⟩)
  have KB : Hid (∀ X wa vd, DK w X (.slice fa nf fc) nf F pa np pc (G : Int) (M : Int) T wa → IntRow wa vd [(0 : Int)].length (getI [(0 : Int)]) → Calls Try.prog 13 #[.slice fa nf fc, .agg #[.slice pa np pc, .int .i64 (G : Int), .int .i64 (M : Int)], vd] wa fun e w' => e = .returned (.int .i64 (t0 : Int)) ∧ Below wa.heap.size wa w') := fun X wa vd h hd =>
    CI.cnt _ _ _ _ _ _ _ vd [(0 : Int)] (t0 : Int) wa (fun _ => ht0.symm) (fun hn => absurd hpots hn) h.1 hsz h.2.1.2 hwt hd
  have KH : Hid (∀ X wa x (ch : Nat → Nat), chL F T (G : Int) (M : Int) x = (List.range G).map (fun g => ((ch g : Nat) : Int)) → DK w X (.slice fa nf fc) nf F pa np pc (G : Int) (M : Int) T wa → Calls Try.prog 21 #[.slice fa nf fc, .agg #[.slice pa np pc, .int .i64 (G : Int), .int .i64 (M : Int)], .int .i64 x] wa fun e w' => ∃ ya yc, e = .returned (.slice ya G yc) ∧ IntRow w' (.slice ya G yc) G (fun g => ((ch g : Nat) : Int)) ∧ Below wa.heap.size wa w') := fun X wa x ch hch h => by
    refine (CI.ch _ _ _ _ _ _ _ x _ wa (fun _ => hch.symm) (fun hn => absurd hpots hn) h.1 hsz h.2.1.2 hwt).mono ?_
    rintro e w' ⟨v, rfl, ho, b⟩
    obtain ⟨va, vc, rfl⟩ := owns_form ho
    have hlen : ((List.range G).map (fun g => ((ch g : Nat) : Int))).length = G := by simp
    have h8 := IntRow.of_list ho (by rw [hlen]; omega)
    rw [hlen] at h8
    exact ⟨va, vc, by rw [hlen], h8.congr fun i hi => getI_rangeD hi, b⟩
  have CF : Hid (∀ k j, k < np → j < (T.getD k []).length → ∃ ch : Nat → Nat, chL F T (G : Int) (M : Int) (getI (T.getD k []) j) = (List.range G).map (fun g => ((ch g : Nat) : Int)) ∧ sumNN ch G = c ∧ (getI (T.getD k []) j = getI (T.getD 0 []) 0 → ch 0 = t0)) := fun k j hk hj => by
    obtain ⟨ch, h1, h2, h3⟩ := HCF k j (by rw [HNP.out]; exact hk) hj
    exact ⟨ch, h1, h2, fun e => by have := h3 e; rw [ht0] at this; omega⟩
  have HRW : Hid (∀ k, k < np → (T.getD k []).length ≤ 3 ∧ 1 ≤ (T.getD k []).length) := fun k hk => by
    have := hpots.2.2.2.2.1 k (by rw [HNP.out]; exact hk)
    omega
  have HGT : Hid (∀ k, k < np → T[k]? = some (T.getD k [])) := fun k hk => by
    have hk' : k < T.length := by rw [HNP.out]; exact hk
    rw [List.getD_eq_getElem?_getD, List.getElem?_eq_getElem hk']
    rfl
  have hG2 := hG.1
  have hG3 := hG.2
  have hnp3 : np ≤ 3 := by have := hpots.2.2.2.1.2; rw [HNP.out] at this; omega
  clear CI CM hpots hsz hwt hfield hrd HS bU b1 hnp hG HCF hnone ht0
  obtain ⟨X, hX⟩ : ∃ X, w1.heap.size = X := ⟨_, rfl⟩
  rw [hX] at HK
  obtain ⟨c0, c1, c2⟩ := HK.out.cells
  go_wp2_with fail
  generalize w1.heap.size = X1 at *
  subst hX
  clear hU
  refine (KC.out _ _ HK.out).mono ?_
  rintro e w2 ⟨rfl, b⟩
  replace HK := Lib.hid (HK.out.below b)
  clear b c0 c1 c2
  obtain ⟨c0, c1, c2⟩ := HK.out.cells
  go_wp2_with fail
  refine (KO.out _ _ HK.out).mono ?_
  rintro e w3 ⟨rfl, b⟩
  replace HK := Lib.hid (HK.out.below b)
  clear b c0 c1 c2 KC KO
  obtain ⟨c0, c1, c2⟩ := HK.out.cells
  go_wp2
  clear c0 c1 c2
  go_loopw [32] (fun iv wx => ∃ k : Nat, k ≤ np ∧ iv = .int .i64 k ∧ Hid (DK w X1 (.slice fa nf fc) nf F pa np pc (G : Int) (M : Int) T wx)) (fun iv _ => np - (RowKit.intOf iv).toNat)
  case atStart => exact ⟨0, Nat.zero_le _, rfl, HK⟩
  case round =>
    clear HK
    obtain ⟨k, hk, rfl, HK⟩ := hrel
    by_cases hlt : k < np
    · obtain ⟨pb, po, xa, xc, rfl, hcap, q0, hrr, hm63⟩ := pot_cells (by rw [HNP.out]; exact HK.out.2.1.2) (HGT.out k hlt)
      rw [HNP.out] at hcap
      have hl3 := (HRW.out k hlt).1
      have hl1 := (HRW.out k hlt).2
      have hj1 : (k : Int) < (np : Int) := by omega
      have CK := Lib.hid (fun j hj => CF.out k j hlt hj)
      obtain ⟨r, hr⟩ : ∃ r, T.getD k [] = r := ⟨_, rfl⟩
      have HR := Lib.hid hr
      rw [hr] at q0 hrr hm63 hl3 hl1 CK
      clear hr
      obtain ⟨m, hm⟩ : ∃ m, r.length = m := ⟨_, rfl⟩
      rw [hm] at q0 hrr hm63 hl3 hl1 CK
      clear hm
      obtain ⟨xb, xo, rfl, hxc, _⟩ := int_at hrr (show 0 < m by omega)
      have HP := Lib.hid hrr
      have PJ : Hid (∀ wa i, i < m → IntRow wa (.slice (some ⟨xb, xo, none⟩) m xc) m (getI r) → wa.cell? ⟨xb, xo + i, none⟩ = some (.int .i64 (getI r i))) := fun wa i hi h => by
        obtain ⟨xb', xo', he, _, h2⟩ := int_at h hi
        simp only [Option.some.injEq, Addr.mk.injEq, and_true] at he
        obtain ⟨rfl, rfl⟩ := he
        exact h2
      have PQ : Hid (∀ wa, IntRow wa (.slice (some ⟨xb, xo, none⟩) m xc) m (getI r) → wa.cell? ⟨xb, xo, none⟩ = some (.int .i64 (getI r 0))) := fun wa h => PJ.out wa 0 (by omega) h
      clear hrr
      have m1 : (0 : Int) < (m : Int) := by omega
      have m2 : 0 < m := by omega
      go_wp2
      go_loopw [39] (fun iv wx => ∃ j : Nat, j ≤ m ∧ iv = .int .i64 j ∧ Hid (DK w X1 (.slice fa nf fc) nf F (some ⟨pb, po, none⟩) np pc (G : Int) (M : Int) T wx) ∧ Hid (IntRow wx (.slice (some ⟨xb, xo, none⟩) m xc) m (getI r))) (fun iv _ => m - (RowKit.intOf iv).toNat)
      case atStart => exact ⟨0, Nat.zero_le _, rfl, HK, HP⟩
      case round =>
        clear HK HP q0
        obtain ⟨j, hj, rfl, HK, HP⟩ := hrel
        by_cases hlt2 : j < m
        · have q1 := PJ.out _ j hlt2 HP.out
          have hj2 : (j : Int) < (m : Int) := by omega
          obtain ⟨c0, c1, c2⟩ := HK.out.cells
          obtain ⟨ch, hch, hsum, hfst⟩ := CK.out j hlt2
          have HSUM := Lib.hid hsum
          have HFST := Lib.hid hfst
          have HCH := Lib.hid hch
          clear hch hsum hfst
          obtain ⟨z, hz⟩ : ∃ z, getI r j = z := ⟨_, rfl⟩
          have HZ := Lib.hid hz
          rw [hz] at q1
          rw [hz] at HCH
          clear hz
          go_wp2_with fail
          refine (KH.out _ _ _ ch HCH.out HK.out).mono ?_
          rintro e w10 ⟨ya, yc, rfl, hyc, b⟩
          replace HK := Lib.hid (HK.out.below b)
          replace HP := Lib.hid (HP.out.below b (Nat.le_refl _))
          clear b c0 c1 c2 q1
          obtain ⟨yb, yo, rfl, hycap, _⟩ := int_at hyc (show 0 < G by omega)
          have HC := Lib.hid hyc
          have CJ : Hid (∀ wa i, i < G → IntRow wa (.slice (some ⟨yb, yo, none⟩) G yc) G (fun g => ((ch g : Nat) : Int)) → wa.cell? ⟨yb, yo + i, none⟩ = some (.int .i64 ((ch i : Nat) : Int))) := fun wa i hi h => by
            obtain ⟨xb', xo', he, _, h2⟩ := int_at h hi
            simp only [Option.some.injEq, Addr.mk.injEq, and_true] at he
            obtain ⟨rfl, rfl⟩ := he
            exact h2
          have CQ0 : Hid (∀ wa, IntRow wa (.slice (some ⟨yb, yo, none⟩) G yc) G (fun g => ((ch g : Nat) : Int)) → wa.cell? ⟨yb, yo, none⟩ = some (.int .i64 ((ch 0 : Nat) : Int))) := fun wa h => CJ.out wa 0 (by omega) h
          clear hyc
          obtain ⟨c0, c1, c2⟩ := HK.out.cells
          have n1 : ((G : Int) != (G : Int)) = false := by simp
          go_wp2
          clear c0 c1 c2
          go_loopw [11, 54] (fun sv iv wx => ∃ y : Nat, y ≤ G ∧ sv = .int .i64 ((sumNN ch y : Nat) : Int) ∧ iv = .int .i64 y ∧ Hid (DK w X1 (.slice fa nf fc) nf F (some ⟨pb, po, none⟩) np pc (G : Int) (M : Int) T wx) ∧ Hid (IntRow wx (.slice (some ⟨xb, xo, none⟩) m xc) m (getI r)) ∧ Hid (IntRow wx (.slice (some ⟨yb, yo, none⟩) G yc) G (fun g => ((ch g : Nat) : Int)))) (fun sv iv _ => G - (RowKit.intOf iv).toNat)
          case atStart => exact ⟨0, Nat.zero_le _, rfl, rfl, HK, HP, HC⟩
          case round =>
            clear HK HP HC
            obtain ⟨y, hy, rfl, rfl, HK, HP, HC⟩ := hrel
            by_cases hlt3 : y < G
            · have q2 := CJ.out _ y hlt3 HC.out
              have hy2 : (y : Int) < (G : Int) := by omega
              have s1 : Hid (sumNN ch (y + 1) = sumNN ch y + ch y) := rfl
              have s2 : sumNN ch (y + 1) ≤ c := by rw [← HSUM.out]; exact sumNN_mono ch hlt3
              have s3 : IntKind.i64.wrap (((sumNN ch y : Nat) : Int) + ((ch y : Nat) : Int)) = ((sumNN ch (y + 1) : Nat) : Int) := by
                have h9 := s1.out
                rw [show ((sumNN ch y : Nat) : Int) + ((ch y : Nat) : Int) = ((sumNN ch (y + 1) : Nat) : Int) by omega]
                exact IntWalk.i64_in _ (by omega)
              go_wp2
              go_roundw
              case rel => exact ⟨y + 1, by omega, rfl, by go_num, HK, HP, HC⟩
              case measure => simp only [RowKit.intOf]; omega
            · have hyG : G = y := by omega
              subst hyG
              have s5 : Hid (sumNN ch G = c) := HSUM.out
              rw [s5.out]
              have n2 : ((c : Int) != (c : Int)) = false := by simp
              have CQ : Hid (∀ wa, IntRow wa (.slice (some ⟨yb, yo, none⟩) G yc) G (fun g => ((ch g : Nat) : Int)) → wa.cell? ⟨yb, yo, none⟩ = some (.int .i64 ((ch 0 : Nat) : Int))) := CQ0.out
              have hG1 : (0 : Int) < (G : Int) := by omega
              have hG0 : 0 < G := by omega
              by_cases hk0 : k = 0
              · have HK0 := Lib.hid hk0
                have n5 : ((k : Int) == 0) = true := by simp; omega
                have n6 : (k : Int) = 0 := by omega
                have n7 : decide ((k : Int) = 0) = true := decide_eq_true n6
                clear hk0 n6
                by_cases hz0 : z = getI r 0
                · have h30 : ch 0 = t0 := HFST.out (by have h9 := HR.out; rw [HK0.out] at h9; rw [HZ.out, h9]; exact hz0)
                  rw [h30] at CQ
                  rw [← hz0] at PQ
                  have n3 : (z == z) = true := by simp
                  have n4 : ((t0 : Int) != (t0 : Int)) = false := by simp
                  clear CQ0 h30 hz0
                  obtain ⟨S, HSd⟩ : ∃ S : World → Prop, S = fun w' => (DK w X1 (.slice fa nf fc) nf F (some ⟨pb, po, none⟩) np pc (G : Int) (M : Int) T w' ∧ IntRow w' (.slice (some ⟨xb, xo, none⟩) m xc) m (getI r) ∧ IntRow w' (.slice (some ⟨yb, yo, none⟩) G yc) G (fun g => ((ch g : Nat) : Int))) := ⟨_, rfl⟩
                  have KS : Hid (∀ wa wb, S wa → Below wa.heap.size wa wb → S wb) := by subst HSd; exact fun wa wb h b => ⟨h.1.below b, h.2.1.below b (Nat.le_refl _), h.2.2.below b (Nat.le_refl _)⟩
                  have OS : Hid (∀ wa, S wa → (DK w X1 (.slice fa nf fc) nf F (some ⟨pb, po, none⟩) np pc (G : Int) (M : Int) T wa ∧ IntRow wa (.slice (some ⟨xb, xo, none⟩) m xc) m (getI r) ∧ IntRow wa (.slice (some ⟨yb, yo, none⟩) G yc) G (fun g => ((ch g : Nat) : Int)))) := by subst HSd; exact fun wa h => h
                  have IS : Hid (∀ wa, (DK w X1 (.slice fa nf fc) nf F (some ⟨pb, po, none⟩) np pc (G : Int) (M : Int) T wa ∧ IntRow wa (.slice (some ⟨xb, xo, none⟩) m xc) m (getI r) ∧ IntRow wa (.slice (some ⟨yb, yo, none⟩) G yc) G (fun g => ((ch g : Nat) : Int))) → S wa) := by subst HSd; exact fun wa h => h
                  clear HSd
                  go_wp2_with fail
                  refine wp_region_held_drew (S := S) (by kernel_rfl) ?_ (fun hHeld => ?_)
                  · exact IS.out _ ((fun (b : Below wr.heap.size wr wr.drew) => ⟨HK.out.below b, HP.out.below b (Nat.le_refl _), HC.out.below b (Nat.le_refl _)⟩) (Below.refl _ _).drew)
                  refine wpAnyH_take (i := 0) (v := ?_) rfl (by kernel_rfl) (by kernel_rfl) (by kernel_rfl) (fun _ _ _ h => h) (Or.inl ⟨by rfl, ?_⟩) hHeld ?_
                  rotate_left
                  · (intro wa hSw; go_simp; try with_reducible rfl)
                  simp only [Act.put, List.getElem_toArray, List.getElem_cons_zero, List.setIfInBounds_toArray, List.set_cons_zero, List.set_cons_succ]
                  refine wpAnyH_take (i := 1) (v := ?_) rfl (by kernel_rfl) (by kernel_rfl) (by kernel_rfl) (fun _ _ _ h => h) (Or.inl ⟨by rfl, ?_⟩) hHeld ?_
                  rotate_left
                  · (intro wa hSw; go_simp; try with_reducible rfl)
                  simp only [Act.put, List.getElem_toArray, List.getElem_cons_zero, List.getElem_cons_succ, List.setIfInBounds_toArray, List.set_cons_zero, List.set_cons_succ]
                  refine wpAnyH_take (i := 2) (v := ?_) rfl (by kernel_rfl) (by kernel_rfl) (by kernel_rfl) (fun _ _ _ h => h) (Or.inl ⟨by rfl, ?_⟩) hHeld ?_
                  rotate_left
                  · (intro wa hSw; go_simp; try with_reducible rfl)
                  simp only [Act.put, List.getElem_toArray, List.getElem_cons_zero, List.getElem_cons_succ, List.setIfInBounds_toArray, List.set_cons_zero, List.set_cons_succ]
                  refine wpAnyH_take (i := 3) (v := ?_) rfl (by kernel_rfl) (by kernel_rfl) (by kernel_rfl) (fun _ _ _ h => h) (Or.inl ⟨by rfl, ?_⟩) hHeld ?_
                  rotate_left
                  · (intro wa hSw; go_simp; try with_reducible rfl)
                  simp only [Act.put, List.getElem_toArray, List.getElem_cons_zero, List.getElem_cons_succ, List.setIfInBounds_toArray, List.set_cons_zero, List.set_cons_succ]
                  refine wpAnyH_take (i := 4) (v := ?_) rfl (by kernel_rfl) (by kernel_rfl) (by kernel_rfl) (fun _ _ _ h => h) (Or.inl ⟨by rfl, ?_⟩) hHeld ?_
                  rotate_left
                  · (intro wa hSw; go_simp; try with_reducible rfl)
                  simp only [Act.put, List.getElem_toArray, List.getElem_cons_zero, List.getElem_cons_succ, List.setIfInBounds_toArray, List.set_cons_zero, List.set_cons_succ]
                  refine wpAnyH_take (i := 5) (v := ?_) rfl (by kernel_rfl) (by kernel_rfl) (by kernel_rfl) (fun _ _ _ h => h) (Or.inl ⟨by rfl, ?_⟩) hHeld ?_
                  rotate_left
                  · (intro wa hSw; go_simp; try with_reducible rfl)
                  simp only [Act.put, List.getElem_toArray, List.getElem_cons_zero, List.getElem_cons_succ, List.setIfInBounds_toArray, List.set_cons_zero, List.set_cons_succ]
                  refine wpAnyH_take (i := 6) (v := ?_) rfl (by kernel_rfl) (by kernel_rfl) (by kernel_rfl) (fun _ _ _ h => h) (Or.inl ⟨by rfl, ?_⟩) hHeld ?_
                  rotate_left
                  · (intro wa hSw; go_simp; try with_reducible rfl)
                  simp only [Act.put, List.getElem_toArray, List.getElem_cons_zero, List.getElem_cons_succ, List.setIfInBounds_toArray, List.set_cons_zero, List.set_cons_succ]
                  refine wpAnyH_take (i := 7) (v := ?_) rfl (by kernel_rfl) (by kernel_rfl) (by kernel_rfl) (fun _ _ _ h => h) (Or.inl ⟨by rfl, ?_⟩) hHeld ?_
                  rotate_left
                  · (intro wa hSw; go_simp; try with_reducible rfl)
                  simp only [Act.put, List.getElem_toArray, List.getElem_cons_zero, List.getElem_cons_succ, List.setIfInBounds_toArray, List.set_cons_zero, List.set_cons_succ]
                  refine wpAnyH_take (i := 8) (v := ?_) rfl (by kernel_rfl) (by kernel_rfl) (by kernel_rfl) (fun _ _ _ h => h) (Or.inl ⟨by rfl, ?_⟩) hHeld ?_
                  rotate_left
                  · (intro wa hSw; go_simp; try with_reducible rfl)
                  simp only [Act.put, List.getElem_toArray, List.getElem_cons_zero, List.getElem_cons_succ, List.setIfInBounds_toArray, List.set_cons_zero, List.set_cons_succ]
                  refine wpAnyH_take (i := 9) (v := ?_) rfl (by kernel_rfl) (by kernel_rfl) (by kernel_rfl) (fun _ _ _ h => h) (Or.inl ⟨by rfl, ?_⟩) hHeld ?_
                  rotate_left
                  · (intro wa hSw; go_simp; try with_reducible rfl)
                  simp only [Act.put, List.getElem_toArray, List.getElem_cons_zero, List.getElem_cons_succ, List.setIfInBounds_toArray, List.set_cons_zero, List.set_cons_succ]
                  refine wpAnyH_take (i := 10) (v := ?_) rfl (by kernel_rfl) (by kernel_rfl) (by kernel_rfl) (fun _ _ _ h => h) (Or.inl ⟨by rfl, ?_⟩) hHeld ?_
                  rotate_left
                  · (intro wa hSw; have K := OS.out _ hSw; obtain ⟨cb0, cb1, cb2⟩ := K.1.cells; have cp := PQ.out _ K.2.1; have cc := CQ.out _ K.2.2; go_simp; try with_reducible rfl)
                  simp only [Act.put, List.getElem_toArray, List.getElem_cons_zero, List.getElem_cons_succ, List.setIfInBounds_toArray, List.set_cons_zero, List.set_cons_succ]
                  refine wpAnyH_take (i := 11) (v := ?_) rfl (by kernel_rfl) (by kernel_rfl) (by kernel_rfl) (fun _ _ _ h => h) (Or.inl ⟨by rfl, ?_⟩) hHeld ?_
                  rotate_left
                  · (intro wa hSw; go_simp; try with_reducible rfl)
                  simp only [Act.put, List.getElem_toArray, List.getElem_cons_zero, List.getElem_cons_succ, List.setIfInBounds_toArray, List.set_cons_zero, List.set_cons_succ]
                  refine wpAnyH_take (i := 12) (v := ?_) rfl (by kernel_rfl) (by kernel_rfl) (by kernel_rfl) (fun _ _ _ h => h) (Or.inl ⟨by rfl, ?_⟩) hHeld ?_
                  rotate_left
                  · (intro wa hSw; go_simp; try with_reducible rfl)
                  simp only [Act.put, List.getElem_toArray, List.getElem_cons_zero, List.getElem_cons_succ, List.setIfInBounds_toArray, List.set_cons_zero, List.set_cons_succ]
                  refine wpAnyH_take (i := 13) (v := ?_) rfl (by kernel_rfl) (by kernel_rfl) (by kernel_rfl) (fun _ _ _ h => h) (Or.inl ⟨by rfl, ?_⟩) hHeld ?_
                  rotate_left
                  · (intro wa hSw; go_simp; try with_reducible rfl)
                  simp only [Act.put, List.getElem_toArray, List.getElem_cons_zero, List.getElem_cons_succ, List.setIfInBounds_toArray, List.set_cons_zero, List.set_cons_succ]
                  refine wpAnyH_take (i := 14) (v := ?_) rfl (by kernel_rfl) (by kernel_rfl) (by kernel_rfl) (fun _ _ _ h => h) (Or.inl ⟨by rfl, ?_⟩) hHeld ?_
                  rotate_left
                  · (intro wa hSw; go_simp; try with_reducible rfl)
                  simp only [Act.put, List.getElem_toArray, List.getElem_cons_zero, List.getElem_cons_succ, List.setIfInBounds_toArray, List.set_cons_zero, List.set_cons_succ]
                  refine wpAnyH_take (i := 15) (v := ?_) rfl (by kernel_rfl) (by kernel_rfl) (by kernel_rfl) (fun _ _ _ h => h) (Or.inl ⟨by rfl, ?_⟩) hHeld ?_
                  rotate_left
                  · (intro wa hSw; go_simp; try with_reducible rfl)
                  simp only [Act.put, List.getElem_toArray, List.getElem_cons_zero, List.getElem_cons_succ, List.setIfInBounds_toArray, List.set_cons_zero, List.set_cons_succ]
                  refine wpAnyH_take (i := 16) (v := ?_) rfl (by kernel_rfl) (by kernel_rfl) (by kernel_rfl) (fun _ _ _ h => h) (Or.inl ⟨by rfl, ?_⟩) hHeld ?_
                  rotate_left
                  · (intro wa hSw; have K := OS.out _ hSw; obtain ⟨cb0, cb1, cb2⟩ := K.1.cells; have cp := PQ.out _ K.2.1; have cc := CQ.out _ K.2.2; go_simp; try with_reducible rfl)
                  simp only [Act.put, List.getElem_toArray, List.getElem_cons_zero, List.getElem_cons_succ, List.setIfInBounds_toArray, List.set_cons_zero, List.set_cons_succ]
                  refine wpAnyH_take (i := 17) (v := ?_) rfl (by kernel_rfl) (by kernel_rfl) (by kernel_rfl) (fun _ _ _ h => h) (Or.inl ⟨by rfl, ?_⟩) hHeld ?_
                  rotate_left
                  · (intro wa hSw; go_simp; try with_reducible rfl)
                  simp only [Act.put, List.getElem_toArray, List.getElem_cons_zero, List.getElem_cons_succ, List.setIfInBounds_toArray, List.set_cons_zero, List.set_cons_succ]
                  refine wpAnyH_take (i := 18) (v := ?_) rfl (by kernel_rfl) (by kernel_rfl) (by kernel_rfl) (fun _ _ _ h => h) (Or.inl ⟨by rfl, ?_⟩) hHeld ?_
                  rotate_left
                  · (intro wa hSw; have K := OS.out _ hSw; obtain ⟨cb0, cb1, cb2⟩ := K.1.cells; have cp := PQ.out _ K.2.1; have cc := CQ.out _ K.2.2; go_simp; try with_reducible rfl)
                  simp only [Act.put, List.getElem_toArray, List.getElem_cons_zero, List.getElem_cons_succ, List.setIfInBounds_toArray, List.set_cons_zero, List.set_cons_succ]
                  refine wpAnyH_ready (rs := [19]) (by kernel_rfl) (by simp) ?_
                  refine AllReadyH.cons (o := _) rfl (fun K hK => ?_) AllReadyH.nil
                  go_simp
                  refine hK.out _ _ ?_ (fun hHeld101 => ?_)
                  · exact IS.out _ ((fun K => ⟨K.1.alloc _, K.2.1.below ((Below.refl _ _).alloc (Nat.le_refl _) _) (Nat.le_refl _), K.2.2.below ((Below.refl _ _).alloc (Nat.le_refl _) _) (Nat.le_refl _)⟩) (OS.out _ hHeld))
                  clear hK K
                  refine wpAnyH_ready (rs := [20]) (by kernel_rfl) (by simp) ?_
                  refine AllReadyH.cons (o := _) rfl (fun K hK => ?_) AllReadyH.nil
                  go_simp
                  have KK := OS.out _ hHeld101
                  refine (KB.out X1 _ _ KK.1 one_row).mono ?_
                  rintro e w102 ⟨rfl, b102⟩
                  clear KK
                  (try go_wp2_with fail)
                  refine hK.out _ _ ?_ (fun hHeld102 => ?_)
                  · exact KS.out _ _ hHeld101 b102
                  clear hK K
                  clear hHeld101
                  refine wpAnyH_take (i := 21) (v := ?_) rfl (by kernel_rfl) (by kernel_rfl) (by kernel_rfl) (fun _ _ _ h => h) (Or.inl ⟨by rfl, ?_⟩) hHeld102 ?_
                  rotate_left
                  · (intro wa hSw; go_simp; try with_reducible rfl)
                  simp only [Act.put, List.getElem_toArray, List.getElem_cons_zero, List.getElem_cons_succ, List.setIfInBounds_toArray, List.set_cons_zero, List.set_cons_succ]
                  refine wpAnyH_take (i := 22) (v := ?_) rfl (by kernel_rfl) (by kernel_rfl) (by kernel_rfl) (fun _ _ _ h => h) (Or.inl ⟨by rfl, ?_⟩) hHeld102 ?_
                  rotate_left
                  · (intro wa hSw; go_simp; try with_reducible rfl)
                  simp only [Act.put, List.getElem_toArray, List.getElem_cons_zero, List.getElem_cons_succ, List.setIfInBounds_toArray, List.set_cons_zero, List.set_cons_succ]
                  refine wpAnyH_take (i := 23) (v := ?_) rfl (by kernel_rfl) (by kernel_rfl) (by kernel_rfl) (fun _ _ _ h => h) (Or.inl ⟨by rfl, ?_⟩) hHeld102 ?_
                  rotate_left
                  · (intro wa hSw; go_simp; try with_reducible rfl)
                  simp only [Act.put, List.getElem_toArray, List.getElem_cons_zero, List.getElem_cons_succ, List.setIfInBounds_toArray, List.set_cons_zero, List.set_cons_succ]
                  refine wpAnyH_done (by kernel_rfl) ?_ _
                  have KE := Lib.hid (OS.out _ hHeld102)
                  clear KS OS IS hHeld hHeld102
                  obtain ⟨HKx, HPx, HCx⟩ := KE.out
                  replace HK := Lib.hid HKx
                  replace HP := Lib.hid HPx
                  clear KE HKx HPx HCx HC
                  go_wp2
                  go_roundw
                  case rel => exact ⟨j + 1, by omega, by go_num, HK, HP⟩
                  case measure => simp only [RowKit.intOf]; omega
                · have n3 : (z == getI r 0) = false := by simp; exact hz0
                  have n4 : decide (z = getI r 0) = false := decide_eq_false hz0
                  obtain ⟨S, HSd⟩ : ∃ S : World → Prop, S = fun w' => (DK w X1 (.slice fa nf fc) nf F (some ⟨pb, po, none⟩) np pc (G : Int) (M : Int) T w' ∧ IntRow w' (.slice (some ⟨xb, xo, none⟩) m xc) m (getI r) ∧ IntRow w' (.slice (some ⟨yb, yo, none⟩) G yc) G (fun g => ((ch g : Nat) : Int))) := ⟨_, rfl⟩
                  have KS : Hid (∀ wa wb, S wa → Below wa.heap.size wa wb → S wb) := by subst HSd; exact fun wa wb h b => ⟨h.1.below b, h.2.1.below b (Nat.le_refl _), h.2.2.below b (Nat.le_refl _)⟩
                  have OS : Hid (∀ wa, S wa → (DK w X1 (.slice fa nf fc) nf F (some ⟨pb, po, none⟩) np pc (G : Int) (M : Int) T wa ∧ IntRow wa (.slice (some ⟨xb, xo, none⟩) m xc) m (getI r) ∧ IntRow wa (.slice (some ⟨yb, yo, none⟩) G yc) G (fun g => ((ch g : Nat) : Int)))) := by subst HSd; exact fun wa h => h
                  have IS : Hid (∀ wa, (DK w X1 (.slice fa nf fc) nf F (some ⟨pb, po, none⟩) np pc (G : Int) (M : Int) T wa ∧ IntRow wa (.slice (some ⟨xb, xo, none⟩) m xc) m (getI r) ∧ IntRow wa (.slice (some ⟨yb, yo, none⟩) G yc) G (fun g => ((ch g : Nat) : Int))) → S wa) := by subst HSd; exact fun wa h => h
                  clear HSd
                  go_wp2_with fail
                  refine wp_region_held_drew (S := S) (by kernel_rfl) ?_ (fun hHeld => ?_)
                  · exact IS.out _ ((fun (b : Below wr.heap.size wr wr.drew) => ⟨HK.out.below b, HP.out.below b (Nat.le_refl _), HC.out.below b (Nat.le_refl _)⟩) (Below.refl _ _).drew)
                  refine wpAnyH_take (i := 0) (v := ?_) rfl (by kernel_rfl) (by kernel_rfl) (by kernel_rfl) (fun _ _ _ h => h) (Or.inl ⟨by rfl, ?_⟩) hHeld ?_
                  rotate_left
                  · (intro wa hSw; go_simp; try with_reducible rfl)
                  simp only [Act.put, List.getElem_toArray, List.getElem_cons_zero, List.setIfInBounds_toArray, List.set_cons_zero, List.set_cons_succ]
                  refine wpAnyH_take (i := 1) (v := ?_) rfl (by kernel_rfl) (by kernel_rfl) (by kernel_rfl) (fun _ _ _ h => h) (Or.inl ⟨by rfl, ?_⟩) hHeld ?_
                  rotate_left
                  · (intro wa hSw; go_simp; try with_reducible rfl)
                  simp only [Act.put, List.getElem_toArray, List.getElem_cons_zero, List.getElem_cons_succ, List.setIfInBounds_toArray, List.set_cons_zero, List.set_cons_succ]
                  refine wpAnyH_take (i := 2) (v := ?_) rfl (by kernel_rfl) (by kernel_rfl) (by kernel_rfl) (fun _ _ _ h => h) (Or.inl ⟨by rfl, ?_⟩) hHeld ?_
                  rotate_left
                  · (intro wa hSw; go_simp; try with_reducible rfl)
                  simp only [Act.put, List.getElem_toArray, List.getElem_cons_zero, List.getElem_cons_succ, List.setIfInBounds_toArray, List.set_cons_zero, List.set_cons_succ]
                  refine wpAnyH_take (i := 3) (v := ?_) rfl (by kernel_rfl) (by kernel_rfl) (by kernel_rfl) (fun _ _ _ h => h) (Or.inl ⟨by rfl, ?_⟩) hHeld ?_
                  rotate_left
                  · (intro wa hSw; go_simp; try with_reducible rfl)
                  simp only [Act.put, List.getElem_toArray, List.getElem_cons_zero, List.getElem_cons_succ, List.setIfInBounds_toArray, List.set_cons_zero, List.set_cons_succ]
                  refine wpAnyH_take (i := 4) (v := ?_) rfl (by kernel_rfl) (by kernel_rfl) (by kernel_rfl) (fun _ _ _ h => h) (Or.inl ⟨by rfl, ?_⟩) hHeld ?_
                  rotate_left
                  · (intro wa hSw; go_simp; try with_reducible rfl)
                  simp only [Act.put, List.getElem_toArray, List.getElem_cons_zero, List.getElem_cons_succ, List.setIfInBounds_toArray, List.set_cons_zero, List.set_cons_succ]
                  refine wpAnyH_take (i := 5) (v := ?_) rfl (by kernel_rfl) (by kernel_rfl) (by kernel_rfl) (fun _ _ _ h => h) (Or.inl ⟨by rfl, ?_⟩) hHeld ?_
                  rotate_left
                  · (intro wa hSw; go_simp; try with_reducible rfl)
                  simp only [Act.put, List.getElem_toArray, List.getElem_cons_zero, List.getElem_cons_succ, List.setIfInBounds_toArray, List.set_cons_zero, List.set_cons_succ]
                  refine wpAnyH_take (i := 6) (v := ?_) rfl (by kernel_rfl) (by kernel_rfl) (by kernel_rfl) (fun _ _ _ h => h) (Or.inl ⟨by rfl, ?_⟩) hHeld ?_
                  rotate_left
                  · (intro wa hSw; go_simp; try with_reducible rfl)
                  simp only [Act.put, List.getElem_toArray, List.getElem_cons_zero, List.getElem_cons_succ, List.setIfInBounds_toArray, List.set_cons_zero, List.set_cons_succ]
                  refine wpAnyH_take (i := 7) (v := ?_) rfl (by kernel_rfl) (by kernel_rfl) (by kernel_rfl) (fun _ _ _ h => h) (Or.inl ⟨by rfl, ?_⟩) hHeld ?_
                  rotate_left
                  · (intro wa hSw; go_simp; try with_reducible rfl)
                  simp only [Act.put, List.getElem_toArray, List.getElem_cons_zero, List.getElem_cons_succ, List.setIfInBounds_toArray, List.set_cons_zero, List.set_cons_succ]
                  refine wpAnyH_take (i := 8) (v := ?_) rfl (by kernel_rfl) (by kernel_rfl) (by kernel_rfl) (fun _ _ _ h => h) (Or.inl ⟨by rfl, ?_⟩) hHeld ?_
                  rotate_left
                  · (intro wa hSw; go_simp; try with_reducible rfl)
                  simp only [Act.put, List.getElem_toArray, List.getElem_cons_zero, List.getElem_cons_succ, List.setIfInBounds_toArray, List.set_cons_zero, List.set_cons_succ]
                  refine wpAnyH_take (i := 9) (v := ?_) rfl (by kernel_rfl) (by kernel_rfl) (by kernel_rfl) (fun _ _ _ h => h) (Or.inl ⟨by rfl, ?_⟩) hHeld ?_
                  rotate_left
                  · (intro wa hSw; go_simp; try with_reducible rfl)
                  simp only [Act.put, List.getElem_toArray, List.getElem_cons_zero, List.getElem_cons_succ, List.setIfInBounds_toArray, List.set_cons_zero, List.set_cons_succ]
                  refine wpAnyH_take (i := 10) (v := ?_) rfl (by kernel_rfl) (by kernel_rfl) (by kernel_rfl) (fun _ _ _ h => h) (Or.inl ⟨by rfl, ?_⟩) hHeld ?_
                  rotate_left
                  · (intro wa hSw; have K := OS.out _ hSw; obtain ⟨cb0, cb1, cb2⟩ := K.1.cells; have cp := PQ.out _ K.2.1; have cc := CQ.out _ K.2.2; go_simp; try with_reducible rfl)
                  simp only [Act.put, List.getElem_toArray, List.getElem_cons_zero, List.getElem_cons_succ, List.setIfInBounds_toArray, List.set_cons_zero, List.set_cons_succ]
                  refine wpAnyH_take (i := 11) (v := ?_) rfl (by kernel_rfl) (by kernel_rfl) (by kernel_rfl) (fun _ _ _ h => h) (Or.inl ⟨by rfl, ?_⟩) hHeld ?_
                  rotate_left
                  · (intro wa hSw; go_simp; try with_reducible rfl)
                  simp only [Act.put, List.getElem_toArray, List.getElem_cons_zero, List.getElem_cons_succ, List.setIfInBounds_toArray, List.set_cons_zero, List.set_cons_succ]
                  refine wpAnyH_take (i := 12) (v := ?_) rfl (by kernel_rfl) (by kernel_rfl) (by kernel_rfl) (fun _ _ _ h => h) (Or.inl ⟨by rfl, ?_⟩) hHeld ?_
                  rotate_left
                  · (intro wa hSw; go_simp; try with_reducible rfl)
                  simp only [Act.put, List.getElem_toArray, List.getElem_cons_zero, List.getElem_cons_succ, List.setIfInBounds_toArray, List.set_cons_zero, List.set_cons_succ]
                  refine wpAnyH_take (i := 13) (v := ?_) rfl (by kernel_rfl) (by kernel_rfl) (by kernel_rfl) (fun _ _ _ h => h) (Or.inl ⟨by rfl, ?_⟩) hHeld ?_
                  rotate_left
                  · (intro wa hSw; go_simp; try with_reducible rfl)
                  simp only [Act.put, List.getElem_toArray, List.getElem_cons_zero, List.getElem_cons_succ, List.setIfInBounds_toArray, List.set_cons_zero, List.set_cons_succ]
                  refine wpAnyH_take (i := 14) (v := undef) rfl (by kernel_rfl) (by kernel_rfl) (by kernel_rfl) (fun _ _ _ h => h) (Or.inr ⟨by rfl, rfl⟩) hHeld ?_
                  simp only [Act.put, List.getElem_toArray, List.getElem_cons_zero, List.getElem_cons_succ, List.setIfInBounds_toArray, List.set_cons_zero, List.set_cons_succ]
                  refine wpAnyH_take (i := 15) (v := undef) rfl (by kernel_rfl) (by kernel_rfl) (by kernel_rfl) (fun _ _ _ h => h) (Or.inr ⟨by rfl, rfl⟩) hHeld ?_
                  simp only [Act.put, List.getElem_toArray, List.getElem_cons_zero, List.getElem_cons_succ, List.setIfInBounds_toArray, List.set_cons_zero, List.set_cons_succ]
                  refine wpAnyH_take (i := 16) (v := undef) rfl (by kernel_rfl) (by kernel_rfl) (by kernel_rfl) (fun _ _ _ h => h) (Or.inr ⟨by rfl, rfl⟩) hHeld ?_
                  simp only [Act.put, List.getElem_toArray, List.getElem_cons_zero, List.getElem_cons_succ, List.setIfInBounds_toArray, List.set_cons_zero, List.set_cons_succ]
                  refine wpAnyH_take (i := 17) (v := undef) rfl (by kernel_rfl) (by kernel_rfl) (by kernel_rfl) (fun _ _ _ h => h) (Or.inr ⟨by rfl, rfl⟩) hHeld ?_
                  simp only [Act.put, List.getElem_toArray, List.getElem_cons_zero, List.getElem_cons_succ, List.setIfInBounds_toArray, List.set_cons_zero, List.set_cons_succ]
                  refine wpAnyH_take (i := 18) (v := undef) rfl (by kernel_rfl) (by kernel_rfl) (by kernel_rfl) (fun _ _ _ h => h) (Or.inr ⟨by rfl, rfl⟩) hHeld ?_
                  simp only [Act.put, List.getElem_toArray, List.getElem_cons_zero, List.getElem_cons_succ, List.setIfInBounds_toArray, List.set_cons_zero, List.set_cons_succ]
                  refine wpAnyH_take (i := 19) (v := undef) rfl (by kernel_rfl) (by kernel_rfl) (by kernel_rfl) (fun _ _ _ h => h) (Or.inr ⟨by rfl, rfl⟩) hHeld ?_
                  simp only [Act.put, List.getElem_toArray, List.getElem_cons_zero, List.getElem_cons_succ, List.setIfInBounds_toArray, List.set_cons_zero, List.set_cons_succ]
                  refine wpAnyH_take (i := 20) (v := undef) rfl (by kernel_rfl) (by kernel_rfl) (by kernel_rfl) (fun _ _ _ h => h) (Or.inr ⟨by rfl, rfl⟩) hHeld ?_
                  simp only [Act.put, List.getElem_toArray, List.getElem_cons_zero, List.getElem_cons_succ, List.setIfInBounds_toArray, List.set_cons_zero, List.set_cons_succ]
                  refine wpAnyH_take (i := 21) (v := undef) rfl (by kernel_rfl) (by kernel_rfl) (by kernel_rfl) (fun _ _ _ h => h) (Or.inr ⟨by rfl, rfl⟩) hHeld ?_
                  simp only [Act.put, List.getElem_toArray, List.getElem_cons_zero, List.getElem_cons_succ, List.setIfInBounds_toArray, List.set_cons_zero, List.set_cons_succ]
                  refine wpAnyH_take (i := 22) (v := ?_) rfl (by kernel_rfl) (by kernel_rfl) (by kernel_rfl) (fun _ _ _ h => h) (Or.inl ⟨by rfl, ?_⟩) hHeld ?_
                  rotate_left
                  · (intro wa hSw; go_simp; try with_reducible rfl)
                  simp only [Act.put, List.getElem_toArray, List.getElem_cons_zero, List.getElem_cons_succ, List.setIfInBounds_toArray, List.set_cons_zero, List.set_cons_succ]
                  refine wpAnyH_take (i := 23) (v := ?_) rfl (by kernel_rfl) (by kernel_rfl) (by kernel_rfl) (fun _ _ _ h => h) (Or.inl ⟨by rfl, ?_⟩) hHeld ?_
                  rotate_left
                  · (intro wa hSw; go_simp; try with_reducible rfl)
                  simp only [Act.put, List.getElem_toArray, List.getElem_cons_zero, List.getElem_cons_succ, List.setIfInBounds_toArray, List.set_cons_zero, List.set_cons_succ]
                  refine wpAnyH_done (by kernel_rfl) ?_ _
                  have KE := Lib.hid (OS.out _ hHeld)
                  clear KS OS IS hHeld
                  obtain ⟨HKx, HPx, HCx⟩ := KE.out
                  replace HK := Lib.hid HKx
                  replace HP := Lib.hid HPx
                  clear KE HKx HPx HCx HC
                  go_wp2
                  go_roundw
                  case rel => exact ⟨j + 1, by omega, by go_num, HK, HP⟩
                  case measure => simp only [RowKit.intOf]; omega
              · have n3 : ((k : Int) == 0) = false := by simp; omega
                have n4 : decide ((k : Int) = 0) = false := decide_eq_false (by omega)
                obtain ⟨S, HSd⟩ : ∃ S : World → Prop, S = fun w' => (DK w X1 (.slice fa nf fc) nf F (some ⟨pb, po, none⟩) np pc (G : Int) (M : Int) T w' ∧ IntRow w' (.slice (some ⟨xb, xo, none⟩) m xc) m (getI r) ∧ IntRow w' (.slice (some ⟨yb, yo, none⟩) G yc) G (fun g => ((ch g : Nat) : Int))) := ⟨_, rfl⟩
                have KS : Hid (∀ wa wb, S wa → Below wa.heap.size wa wb → S wb) := by subst HSd; exact fun wa wb h b => ⟨h.1.below b, h.2.1.below b (Nat.le_refl _), h.2.2.below b (Nat.le_refl _)⟩
                have OS : Hid (∀ wa, S wa → (DK w X1 (.slice fa nf fc) nf F (some ⟨pb, po, none⟩) np pc (G : Int) (M : Int) T wa ∧ IntRow wa (.slice (some ⟨xb, xo, none⟩) m xc) m (getI r) ∧ IntRow wa (.slice (some ⟨yb, yo, none⟩) G yc) G (fun g => ((ch g : Nat) : Int)))) := by subst HSd; exact fun wa h => h
                have IS : Hid (∀ wa, (DK w X1 (.slice fa nf fc) nf F (some ⟨pb, po, none⟩) np pc (G : Int) (M : Int) T wa ∧ IntRow wa (.slice (some ⟨xb, xo, none⟩) m xc) m (getI r) ∧ IntRow wa (.slice (some ⟨yb, yo, none⟩) G yc) G (fun g => ((ch g : Nat) : Int))) → S wa) := by subst HSd; exact fun wa h => h
                clear HSd
                go_wp2_with fail
                refine wp_region_held_drew (S := S) (by kernel_rfl) ?_ (fun hHeld => ?_)
                · exact IS.out _ ((fun (b : Below wr.heap.size wr wr.drew) => ⟨HK.out.below b, HP.out.below b (Nat.le_refl _), HC.out.below b (Nat.le_refl _)⟩) (Below.refl _ _).drew)
                refine wpAnyH_take (i := 0) (v := ?_) rfl (by kernel_rfl) (by kernel_rfl) (by kernel_rfl) (fun _ _ _ h => h) (Or.inl ⟨by rfl, ?_⟩) hHeld ?_
                rotate_left
                · (intro wa hSw; go_simp; try with_reducible rfl)
                simp only [Act.put, List.getElem_toArray, List.getElem_cons_zero, List.setIfInBounds_toArray, List.set_cons_zero, List.set_cons_succ]
                refine wpAnyH_take (i := 1) (v := ?_) rfl (by kernel_rfl) (by kernel_rfl) (by kernel_rfl) (fun _ _ _ h => h) (Or.inl ⟨by rfl, ?_⟩) hHeld ?_
                rotate_left
                · (intro wa hSw; go_simp; try with_reducible rfl)
                simp only [Act.put, List.getElem_toArray, List.getElem_cons_zero, List.getElem_cons_succ, List.setIfInBounds_toArray, List.set_cons_zero, List.set_cons_succ]
                refine wpAnyH_take (i := 2) (v := ?_) rfl (by kernel_rfl) (by kernel_rfl) (by kernel_rfl) (fun _ _ _ h => h) (Or.inl ⟨by rfl, ?_⟩) hHeld ?_
                rotate_left
                · (intro wa hSw; go_simp; try with_reducible rfl)
                simp only [Act.put, List.getElem_toArray, List.getElem_cons_zero, List.getElem_cons_succ, List.setIfInBounds_toArray, List.set_cons_zero, List.set_cons_succ]
                refine wpAnyH_take (i := 3) (v := ?_) rfl (by kernel_rfl) (by kernel_rfl) (by kernel_rfl) (fun _ _ _ h => h) (Or.inl ⟨by rfl, ?_⟩) hHeld ?_
                rotate_left
                · (intro wa hSw; go_simp; try with_reducible rfl)
                simp only [Act.put, List.getElem_toArray, List.getElem_cons_zero, List.getElem_cons_succ, List.setIfInBounds_toArray, List.set_cons_zero, List.set_cons_succ]
                refine wpAnyH_take (i := 4) (v := ?_) rfl (by kernel_rfl) (by kernel_rfl) (by kernel_rfl) (fun _ _ _ h => h) (Or.inl ⟨by rfl, ?_⟩) hHeld ?_
                rotate_left
                · (intro wa hSw; go_simp; try with_reducible rfl)
                simp only [Act.put, List.getElem_toArray, List.getElem_cons_zero, List.getElem_cons_succ, List.setIfInBounds_toArray, List.set_cons_zero, List.set_cons_succ]
                refine wpAnyH_take (i := 5) (v := ?_) rfl (by kernel_rfl) (by kernel_rfl) (by kernel_rfl) (fun _ _ _ h => h) (Or.inl ⟨by rfl, ?_⟩) hHeld ?_
                rotate_left
                · (intro wa hSw; go_simp; try with_reducible rfl)
                simp only [Act.put, List.getElem_toArray, List.getElem_cons_zero, List.getElem_cons_succ, List.setIfInBounds_toArray, List.set_cons_zero, List.set_cons_succ]
                refine wpAnyH_take (i := 6) (v := ?_) rfl (by kernel_rfl) (by kernel_rfl) (by kernel_rfl) (fun _ _ _ h => h) (Or.inl ⟨by rfl, ?_⟩) hHeld ?_
                rotate_left
                · (intro wa hSw; go_simp; try with_reducible rfl)
                simp only [Act.put, List.getElem_toArray, List.getElem_cons_zero, List.getElem_cons_succ, List.setIfInBounds_toArray, List.set_cons_zero, List.set_cons_succ]
                refine wpAnyH_take (i := 7) (v := undef) rfl (by kernel_rfl) (by kernel_rfl) (by kernel_rfl) (fun _ _ _ h => h) (Or.inr ⟨by rfl, rfl⟩) hHeld ?_
                simp only [Act.put, List.getElem_toArray, List.getElem_cons_zero, List.getElem_cons_succ, List.setIfInBounds_toArray, List.set_cons_zero, List.set_cons_succ]
                refine wpAnyH_take (i := 8) (v := undef) rfl (by kernel_rfl) (by kernel_rfl) (by kernel_rfl) (fun _ _ _ h => h) (Or.inr ⟨by rfl, rfl⟩) hHeld ?_
                simp only [Act.put, List.getElem_toArray, List.getElem_cons_zero, List.getElem_cons_succ, List.setIfInBounds_toArray, List.set_cons_zero, List.set_cons_succ]
                refine wpAnyH_take (i := 9) (v := undef) rfl (by kernel_rfl) (by kernel_rfl) (by kernel_rfl) (fun _ _ _ h => h) (Or.inr ⟨by rfl, rfl⟩) hHeld ?_
                simp only [Act.put, List.getElem_toArray, List.getElem_cons_zero, List.getElem_cons_succ, List.setIfInBounds_toArray, List.set_cons_zero, List.set_cons_succ]
                refine wpAnyH_take (i := 10) (v := undef) rfl (by kernel_rfl) (by kernel_rfl) (by kernel_rfl) (fun _ _ _ h => h) (Or.inr ⟨by rfl, rfl⟩) hHeld ?_
                simp only [Act.put, List.getElem_toArray, List.getElem_cons_zero, List.getElem_cons_succ, List.setIfInBounds_toArray, List.set_cons_zero, List.set_cons_succ]
                refine wpAnyH_take (i := 11) (v := undef) rfl (by kernel_rfl) (by kernel_rfl) (by kernel_rfl) (fun _ _ _ h => h) (Or.inr ⟨by rfl, rfl⟩) hHeld ?_
                simp only [Act.put, List.getElem_toArray, List.getElem_cons_zero, List.getElem_cons_succ, List.setIfInBounds_toArray, List.set_cons_zero, List.set_cons_succ]
                refine wpAnyH_take (i := 12) (v := ?_) rfl (by kernel_rfl) (by kernel_rfl) (by kernel_rfl) (fun _ _ _ h => h) (Or.inl ⟨by rfl, ?_⟩) hHeld ?_
                rotate_left
                · (intro wa hSw; go_simp; try with_reducible rfl)
                simp only [Act.put, List.getElem_toArray, List.getElem_cons_zero, List.getElem_cons_succ, List.setIfInBounds_toArray, List.set_cons_zero, List.set_cons_succ]
                refine wpAnyH_take (i := 13) (v := ?_) rfl (by kernel_rfl) (by kernel_rfl) (by kernel_rfl) (fun _ _ _ h => h) (Or.inl ⟨by rfl, ?_⟩) hHeld ?_
                rotate_left
                · (intro wa hSw; go_simp; try with_reducible rfl)
                simp only [Act.put, List.getElem_toArray, List.getElem_cons_zero, List.getElem_cons_succ, List.setIfInBounds_toArray, List.set_cons_zero, List.set_cons_succ]
                refine wpAnyH_take (i := 14) (v := undef) rfl (by kernel_rfl) (by kernel_rfl) (by kernel_rfl) (fun _ _ _ h => h) (Or.inr ⟨by rfl, rfl⟩) hHeld ?_
                simp only [Act.put, List.getElem_toArray, List.getElem_cons_zero, List.getElem_cons_succ, List.setIfInBounds_toArray, List.set_cons_zero, List.set_cons_succ]
                refine wpAnyH_take (i := 15) (v := undef) rfl (by kernel_rfl) (by kernel_rfl) (by kernel_rfl) (fun _ _ _ h => h) (Or.inr ⟨by rfl, rfl⟩) hHeld ?_
                simp only [Act.put, List.getElem_toArray, List.getElem_cons_zero, List.getElem_cons_succ, List.setIfInBounds_toArray, List.set_cons_zero, List.set_cons_succ]
                refine wpAnyH_take (i := 16) (v := undef) rfl (by kernel_rfl) (by kernel_rfl) (by kernel_rfl) (fun _ _ _ h => h) (Or.inr ⟨by rfl, rfl⟩) hHeld ?_
                simp only [Act.put, List.getElem_toArray, List.getElem_cons_zero, List.getElem_cons_succ, List.setIfInBounds_toArray, List.set_cons_zero, List.set_cons_succ]
                refine wpAnyH_take (i := 17) (v := undef) rfl (by kernel_rfl) (by kernel_rfl) (by kernel_rfl) (fun _ _ _ h => h) (Or.inr ⟨by rfl, rfl⟩) hHeld ?_
                simp only [Act.put, List.getElem_toArray, List.getElem_cons_zero, List.getElem_cons_succ, List.setIfInBounds_toArray, List.set_cons_zero, List.set_cons_succ]
                refine wpAnyH_take (i := 18) (v := undef) rfl (by kernel_rfl) (by kernel_rfl) (by kernel_rfl) (fun _ _ _ h => h) (Or.inr ⟨by rfl, rfl⟩) hHeld ?_
                simp only [Act.put, List.getElem_toArray, List.getElem_cons_zero, List.getElem_cons_succ, List.setIfInBounds_toArray, List.set_cons_zero, List.set_cons_succ]
                refine wpAnyH_take (i := 19) (v := undef) rfl (by kernel_rfl) (by kernel_rfl) (by kernel_rfl) (fun _ _ _ h => h) (Or.inr ⟨by rfl, rfl⟩) hHeld ?_
                simp only [Act.put, List.getElem_toArray, List.getElem_cons_zero, List.getElem_cons_succ, List.setIfInBounds_toArray, List.set_cons_zero, List.set_cons_succ]
                refine wpAnyH_take (i := 20) (v := undef) rfl (by kernel_rfl) (by kernel_rfl) (by kernel_rfl) (fun _ _ _ h => h) (Or.inr ⟨by rfl, rfl⟩) hHeld ?_
                simp only [Act.put, List.getElem_toArray, List.getElem_cons_zero, List.getElem_cons_succ, List.setIfInBounds_toArray, List.set_cons_zero, List.set_cons_succ]
                refine wpAnyH_take (i := 21) (v := undef) rfl (by kernel_rfl) (by kernel_rfl) (by kernel_rfl) (fun _ _ _ h => h) (Or.inr ⟨by rfl, rfl⟩) hHeld ?_
                simp only [Act.put, List.getElem_toArray, List.getElem_cons_zero, List.getElem_cons_succ, List.setIfInBounds_toArray, List.set_cons_zero, List.set_cons_succ]
                refine wpAnyH_take (i := 22) (v := ?_) rfl (by kernel_rfl) (by kernel_rfl) (by kernel_rfl) (fun _ _ _ h => h) (Or.inl ⟨by rfl, ?_⟩) hHeld ?_
                rotate_left
                · (intro wa hSw; go_simp; try with_reducible rfl)
                simp only [Act.put, List.getElem_toArray, List.getElem_cons_zero, List.getElem_cons_succ, List.setIfInBounds_toArray, List.set_cons_zero, List.set_cons_succ]
                refine wpAnyH_take (i := 23) (v := ?_) rfl (by kernel_rfl) (by kernel_rfl) (by kernel_rfl) (fun _ _ _ h => h) (Or.inl ⟨by rfl, ?_⟩) hHeld ?_
                rotate_left
                · (intro wa hSw; go_simp; try with_reducible rfl)
                simp only [Act.put, List.getElem_toArray, List.getElem_cons_zero, List.getElem_cons_succ, List.setIfInBounds_toArray, List.set_cons_zero, List.set_cons_succ]
                refine wpAnyH_done (by kernel_rfl) ?_ _
                have KE := Lib.hid (OS.out _ hHeld)
                clear KS OS IS hHeld
                obtain ⟨HKx, HPx, HCx⟩ := KE.out
                replace HK := Lib.hid HKx
                replace HP := Lib.hid HPx
                clear KE HKx HPx HCx HC
                go_wp2
                go_roundw
                case rel => exact ⟨j + 1, by omega, by go_num, HK, HP⟩
                case measure => simp only [RowKit.intOf]; omega
        · go_wp2
          go_roundw
          case rel => exact ⟨k + 1, by omega, by go_num, HK⟩
          case measure => simp only [RowKit.intOf]; omega
    · go_wp2
      go_ret
      exact ⟨rfl, HK.out.2.2⟩
end Go.Proofs.Ytmhkkdnopcdibaa
