/-
  Packed: Draw9, DrawPlain.
-/
import Derived.Test.YtmhkkdnopcdibaaQ19
set_option linter.unusedVariables false
namespace Go.Proofs.Ytmhkkdnopcdibaa
open Go.RowKit

theorem sumNN_mono (f : Nat → Nat) : ∀ {n k : Nat}, k ≤ n → sumNN f k ≤ sumNN f n
  | 0, k, h => by obtain rfl : k = 0 := by omega
                  exact Nat.le_refl _
  | n + 1, k, h => by
    by_cases e : k = n + 1
    · rw [e]; exact Nat.le_refl _
    · exact Nat.le_trans (sumNN_mono f (show k ≤ n by omega)) (Nat.le_add_right _ _)
def chF (d : DrwD) : Nat → (Nat → Nat → Bool) → (Nat → Nat → Int) → Nat → Nat → Nat
  | 0, P, C, i, h => if fitB d P C i h = true then cntF d (d.N - (i + 1)) (putP d P i h true) (putC d C i h true) (i + 1) else 0
  | f + 1, P, C, i, h => sumNN (fun g => if fitB d P C i g = true then chF d f (putP d P i g true) (putC d C i g true) (i + 1) h else 0) d.G
def SumI (w : World) (sb G : Nat) (S : Nat → Nat) : Prop := w.rowIs sb 3 G (fun g => .int .i64 (S g : Nat)) ∧ ∀ g, g < G → w.cell? ⟨sb, g, none⟩ = some (.int .i64 (S g : Nat)) ∧ w.frozen? ⟨sb, g, none⟩ = false
theorem SumI.of {w : World} {sb G : Nat} {S : Nat → Nat} (h : w.rowIs sb 3 G (fun g => .int .i64 (S g : Nat))) : SumI w sb G S := ⟨h, fun g hg => ⟨h.cell hg, h.frozen g⟩⟩
theorem SumI.congr {w : World} {sb G : Nat} {S S' : Nat → Nat} (h : SumI w sb G S) (e : ∀ g, g < G → S g = S' g) : SumI w sb G S' := SumI.of (h.1.congr fun g hg => by rw [e g hg])
theorem SumI.below {w w' : World} {sb G : Nat} {S : Nat → Nat} (h : SumI w sb G S) (b : Below w.heap.size w w') : SumI w' sb G S := SumI.of (h.1.of_block (b.block sb h.1.lt))
theorem SumI.touch {w w' : World} {lo hi sb G : Nat} {S : Nat → Nat} (h : SumI w sb G S) (t : Touch lo hi w w') (hs : hi ≤ sb) : SumI w' sb G S := SumI.of (h.1.of_block (t.block sb h.1.lt (.inr hs)))
theorem SumI.set {w : World} {sb G : Nat} {S : Nat → Nat} (h : SumI w sb G S) {g z : Nat} (hg : g < G) : SumI (w.setCell ⟨sb, g, none⟩ (.int .i64 (z : Nat))) sb G (fun a => if a = g then z else S a) :=
  SumI.of ((h.1.set g (.int .i64 (z : Nat))).congr fun a _ => by
    show (if a = g then Value.int .i64 (z : Nat) else _) = Value.int .i64 ((if a = g then z else S a : Nat) : Int)
    by_cases e : a = g
    · rw [if_pos e, if_pos e]
    · rw [if_neg e, if_neg e])
theorem SumI.owns {w : World} {sb G base : Nat} {S : Nat → Nat} (h : SumI w sb G S) (hG : G ≤ 4) (hb : base ≤ sb) : w.ownsRow base 3 1 (.slice (some ⟨sb, 0, none⟩) G G) G ((List.range G).map fun g => Value.int .i64 (S g : Nat)) := by
  obtain ⟨c, h1, h2, h3⟩ := h.1
  refine ⟨by simp, .inr ⟨sb, G, c, rfl, hb, h1, Nat.le_refl _, by unfold maxLen; omega, by rw [h2, Nat.mul_one], ?_⟩⟩
  rw [Nat.mul_one]
  apply List.ext_getElem?
  intro i
  rw [List.getElem?_take, List.getElem?_map]
  by_cases hi : i < G
  · rw [if_pos hi, List.getElem?_range hi]
    have h4 := h3 i hi
    simpa using h4
  · rw [if_neg hi, List.getElem?_eq_none (by simpa using hi)]
    rfl
theorem chF_le (d : DrwD) (hG : d.G ≤ 4) (hN : d.N ≤ 12) : ∀ (f : Nat) (P : Nat → Nat → Bool) (C : Nat → Nat → Int) (i h : Nat), chF d f P C i h ≤ 4 ^ f * 4 ^ 12
  | 0, P, C, i, h => by
    show (if _ then _ else _) ≤ _
    split
    · have h1 := cntF_le d hG (d.N - (i + 1)) (putP d P i h true) (putC d C i h true) (i + 1)
      have h2 : 4 ^ (d.N - (i + 1)) ≤ 4 ^ 12 := Nat.pow_le_pow_right (by decide) (by omega)
      rw [Nat.pow_zero, Nat.one_mul]
      omega
    · exact Nat.zero_le _
  | f + 1, P, C, i, h => by
    refine Nat.le_trans (sumNN_le (B := 4 ^ f * 4 ^ 12) d.G fun g hg => ?_) ?_
    · show (if _ then _ else _) ≤ _
      split
      · exact chF_le d hG hN f _ _ _ _
      · exact Nat.zero_le _
    · have e : (4 : Nat) ^ (f + 1) = 4 * 4 ^ f := by rw [Nat.pow_succ, Nat.mul_comm]
      rw [e, Nat.mul_assoc]
      exact Nat.mul_le_mul_right _ hG
set_option maxRecDepth 100000 in
set_option maxHeartbeats 8000000 in
theorem l12Chances_spec (lo hi X sb sc : Nat) (d : DrwD) (hsb : hi ≤ sb) (hsc : d.G ≤ sc) : ∀ (f i t : Nat) (P : Nat → Nat → Bool) (C : Nat → Nat → Int) (S : Nat → Nat) (w : World), t = i + f → i + f < d.N → DrwAt w lo hi X d P C → clubB d C i → SumI w sb d.G S → (∀ g, g < d.G → S g + chF d f P C i g ≤ 4611686018427387904) →
    Calls Try.prog 74 #[.pointer (some ⟨X, 0, none⟩), .int .i64 i, .int .i64 t, .slice (some ⟨sb, 0, none⟩) d.G sc] w fun e w' => e = .returned (.tuple #[]) ∧ DrwAt w' lo hi X d P C ∧ SumI w' sb d.G (fun g => S g + chF d f P C i g) ∧ Below lo w w' := by
  intro f
  induction f with
  | zero =>
    intro i t P C S w ht hN h hC hS hB
    have hiN : i < d.N := by omega
    have HH := Lib.hid h
    have HC := Lib.hid hC
    have HS := Lib.hid hS
    have HBB := Lib.hid hB
    have h4 : d.G ≤ 4 := h.caps.2.2.2.2.1
    have h12 : d.N ≤ 12 := h.caps.2.2.2.1
    have hcl6 := (h.club i hiN).2
    have hlh : lo < hi := Nat.lt_of_le_of_lt h.mp.low.1 h.mp.low.2
    have hls : lo ≤ w.heap.size := Nat.le_trans (Nat.le_of_lt hlh) h.mp.high
    have c4 := h.box.2 4 _ rfl
    have HSF : Hid (∀ g, chF d 0 P C i g = if fitB d P C i g = true then cntF d (d.N - (i + 1)) (putP d P i g true) (putC d C i g true) (i + 1) else 0) := fun g => rfl
    obtain ⟨ch, hch⟩ : ∃ ch, chF d 0 P C i = ch := ⟨_, rfl⟩
    rw [hch] at HBB HSF ⊢
    have g1 : ((i : Int) == (t : Int)) = true := by simp; omega
    clear h hC hS hB hch ht
    obtain ⟨G, hGG⟩ : ∃ G, d.G = G := ⟨_, rfl⟩
    have HG := Lib.hid hGG
    rw [hGG] at c4 h4 hsc HS HBB ⊢
    clear hGG
    go_enter Try.func74, Try.ntmps74
    go_wp2
    clear c4 g1
    go_loopw [18] (fun gv wr => ∃ (g : Nat), g ≤ G ∧ gv = .int .i64 g ∧ Hid (SumI wr sb G (fun a => if a < g then S a + ch a else S a)) ∧ Hid (DrwAt wr lo hi X d P C) ∧ Hid (Below lo w wr)) (fun gv _ => G - (RowKit.intOf gv).toNat)
    case atStart => exact ⟨0, Nat.zero_le _, rfl, HS.out.congr (fun a _ => by rw [if_neg (Nat.not_lt_zero _)]), HH, Below.refl _ _⟩
    case round =>
      clear HS HH
      obtain ⟨g, hg9, rfl, HS, HD, HBr⟩ := hrel
      by_cases hlt : g < G
      · have hj1 : (g : Int) < (G : Int) := by omega
        have hgG : g < d.G := by rw [HG.out]; exact hlt
        have CF := Lib.hid (l12Fits_spec wr lo hi X d P C i g HD.out hiN hgG)
        have HFF : Hid (fitB d P C i g = true → P g (d.pot i) = false) := fun h => (fit_free h).1
        have HCH := Lib.hid (HSF.out g)
        have hbd := HBB.out g hlt
        obtain ⟨ft, hft⟩ : ∃ b, fitB d P C i g = b := ⟨_, rfl⟩
        rw [hft] at CF HFF HCH
        clear hft
        go_wp2_with fail
        refine CF.out.mono ?_
        rintro e w1 ⟨rfl, b⟩
        have HD1 := Lib.hid (HD.out.below b)
        have HS1 := Lib.hid (HS.out.below b)
        have HB1 : Hid (Below lo w w1) := HBr.out.trans (b.mono (Nat.le_trans hls HBr.out.size))
        clear b CF HD HS HBr
        cases ft with
        | false =>
          have HSx : Hid (SumI w1 sb G (fun a => if a < g + 1 then S a + ch a else S a)) := HS1.out.congr fun a _ => by
            by_cases e : a = g
            · subst e
              rw [if_neg (Nat.lt_irrefl _), if_pos (Nat.lt_succ_self _), HCH.out, if_neg (by simp)]
              rfl
            · by_cases e2 : a < g
              · rw [if_pos e2, if_pos (by omega)]
              · rw [if_neg e2, if_neg (by omega)]
          clear HCH HFF
          go_wp2
          go_roundw
          case rel => exact ⟨g + 1, by omega, by go_num, HSx, HD1, HB1⟩
          case measure => simp [RowKit.intOf]; omega
        | true =>
          rw [HCH.out, if_pos rfl] at hbd
          have hcb := HC.out g _ hgG hcl6
          have CP := Lib.hid (l12Put_spec w1 lo hi X d P C i g true HD1.out hiN hgG (by omega))
          have HPB : Hid (putP d (putP d P i g true) i g false = P) := putP_back (HFF.out rfl)
          have HCB : Hid (putC d (putC d C i g true) i g false = C) := putC_back
          have HCN := Lib.hid (HC.out.put hgG hcl6)
          clear HFF
          go_wp2_with fail
          refine CP.out.mono ?_
          rintro e w2 ⟨rfl, hd2, ht2⟩
          have HD2 := Lib.hid hd2
          have HS2 := Lib.hid (HS1.out.touch ht2 hsb)
          have HB2 : Hid (Below lo w w2) := HB1.out.trans (ht2.below (Nat.le_refl _) (Nat.le_trans hls HB1.out.size))
          clear hd2 ht2 CP HD1 HS1 HB1
          have CC : Hid (∀ wa, DrwAt wa lo hi X d (putP d P i g true) (putC d C i g true) → Calls Try.prog 67 #[.pointer (some ⟨X, 0, none⟩), .int .i64 ((i : Int) + 1)] wa fun e w' => e = .returned (.int .i64 (cntF d (d.N - (i + 1)) (putP d P i g true) (putC d C i g true) (i + 1) : Nat)) ∧ DrwAt w' lo hi X d (putP d P i g true) (putC d C i g true) ∧ Touch lo hi wa w') := fun wa ha => l12Count_spec lo hi X d (d.N - (i + 1)) (i + 1) _ _ wa (by omega) ha HCN.out
          have hcn := HCN.out g _ hgG hcl6
          have CP2 := Lib.hid (fun wa ha => l12Put_spec wa lo hi X d (putP d P i g true) (putC d C i g true) i g false ha hiN hgG (by omega))
          rw [HPB.out, HCB.out] at CP2
          clear HPB HCB hcn
          obtain ⟨kk, hkk⟩ : ∃ kk, cntF d (d.N - (i + 1)) (putP d P i g true) (putC d C i g true) (i + 1) = kk := ⟨_, rfl⟩
          rw [hkk] at CC HCH hbd
          clear hkk
          have hsg : (if g < g then S g + ch g else S g) = S g := if_neg (Nat.lt_irrefl _)
          have s0 : w2.cell? ⟨sb, g, none⟩ = some (.int .i64 ((if g < g then S g + ch g else S g : Nat) : Int)) := (HS2.out.2 g hlt).1
          have f0 := (HS2.out.2 g hlt).2
          rw [hsg] at s0
          obtain ⟨sg, hSg⟩ : ∃ sg, S g = sg := ⟨_, rfl⟩
          rw [hSg] at s0 hbd
          have HSG := Lib.hid hSg
          clear hSg hsg
          have hw9 : IntKind.i64.wrap ((sg : Int) + (kk : Int)) = (sg : Int) + (kk : Int) := by rw [IntKind.wrap_i64]; omega
          have CCd := Lib.hid (CC.out w2.drew (HD2.out.below (Below.refl _ _).drew))
          have HKC : Hid (∀ wa, Touch lo hi w2 wa → wa.cell? ⟨sb, g, none⟩ = some (.int .i64 (sg : Int)) ∧ wa.frozen? ⟨sb, g, none⟩ = false) := fun wa ht => by
            have h9 : wa.cell? ⟨sb, g, none⟩ = some (.int .i64 ((if g < g then S g + ch g else S g : Nat) : Int)) ∧ wa.frozen? ⟨sb, g, none⟩ = false := (HS2.out.touch ht hsb).2 g hlt
            rw [if_neg (Nat.lt_irrefl _), HSG.out] at h9
            exact h9
          have hw8 : IntKind.i64.wrap ((i : Int) + 1) = (i : Int) + 1 := by rw [IntKind.wrap_i64]; omega
          go_wp2
          have s0d : w2.drew.cell? ⟨sb, g, none⟩ = some (.int .i64 (sg : Int)) := s0
          go_region_law
            (first | (go_simp; go_at_call 67; refine CCd.out.mono ?_; rintro e w3 ⟨rfl, hd3, ht3'⟩; have ht3 : Touch lo hi w2 w3 := (Touch.of_below (Below.refl _ _).drew).trans ht3'; have f3 := (HKC.out _ ht3).2; have e3 := (HKC.out _ ht3).1) | fail)
          all_goals (
            have hz9 : ((sg : Int) + (kk : Int)) = ((sg + kk : Nat) : Int) := by omega
            have HS4 : Hid (SumI (w3.setCell ⟨sb, g, none⟩ (.int .i64 ((sg : Int) + (kk : Int)))) sb G (fun a => if a < g + 1 then S a + ch a else S a)) := by
              rw [hz9]
              refine ((HS2.out.touch ht3 hsb).set hlt).congr fun a _ => ?_
              by_cases e : a = g
              · subst e
                rw [if_pos rfl, if_pos (Nat.lt_succ_self _), HCH.out, HSG.out]
                simp
              · rw [if_neg e]
                by_cases e2 : a < g
                · rw [if_pos e2, if_pos (by omega)]
                · rw [if_neg e2, if_neg (by omega)]
            have hsl : hi ≤ w3.heap.size := hd3.mp.high
            have HD4 := Lib.hid (hd3.belowHi (by omega) (below_setD (Below.refl hi w3) ⟨sb, g, none⟩ (.int .i64 ((sg : Int) + (kk : Int))) hsb))
            have HB4 : Hid (Below lo w (w3.setCell ⟨sb, g, none⟩ (.int .i64 ((sg : Int) + (kk : Int))))) := below_setD (HB2.out.trans (ht3.below (Nat.le_refl _) (Nat.le_trans hls HB2.out.size))) ⟨sb, g, none⟩ _ (Nat.le_trans (Nat.le_of_lt hlh) hsb)
            have CPx := Lib.hid (CP2.out _ HD4.out)
            have HZ : Hid (w.heap.size ≤ (w3.setCell ⟨sb, g, none⟩ (.int .i64 ((sg : Int) + (kk : Int)))).heap.size) := HB4.out.size
            generalize w3.setCell ⟨sb, g, none⟩ (.int .i64 ((sg : Int) + (kk : Int))) = w4 at *
            clear hz9 hd3 ht3 ht3' e3 f3 s0 s0d f0 CCd HKC HS2 HD2 HB2 CP2 CC HCH HSG
            go_wp2_with fail
            refine CPx.out.mono ?_
            rintro e w5 ⟨rfl, hd5, ht5⟩
            have HD5 := Lib.hid hd5
            have HS5 := Lib.hid (HS4.out.touch ht5 hsb)
            have HB5 : Hid (Below lo w w5) := HB4.out.trans (ht5.below (Nat.le_refl _) (Nat.le_trans hls HZ.out))
            clear hd5 ht5 CPx HD4 HS4 HB4
            go_wp2
            exact ⟨⟨g + 1, by omega, by go_num, HS5, HD5, HB5⟩, by simp [RowKit.intOf]; omega⟩)
      obtain rfl : G = g := by omega
      go_wp2
      refine bodyPost_ret (results_none rfl _ _ _) rfl ?_
      exact ⟨rfl, HD.out, HS.out.congr fun a ha => by rw [if_pos ha], HBr.out⟩
  | succ f IH =>
    intro i t P C S w ht hN h hC hS hB
    have hiN : i < d.N := by omega
    have HIH := Lib.hid IH
    have HH := Lib.hid h
    have HC := Lib.hid hC
    have HS := Lib.hid hS
    have HBB := Lib.hid hB
    have h4 : d.G ≤ 4 := h.caps.2.2.2.2.1
    have h12 : d.N ≤ 12 := h.caps.2.2.2.1
    have hcl6 := (h.club i hiN).2
    have hlh : lo < hi := Nat.lt_of_le_of_lt h.mp.low.1 h.mp.low.2
    have hls : lo ≤ w.heap.size := Nat.le_trans (Nat.le_of_lt hlh) h.mp.high
    have c4 := h.box.2 4 _ rfl
    have HT9 := Lib.hid ht
    have g1 : ((i : Int) == (t : Int)) = false := by simp; omega
    have HCD : Hid (∀ a, chF d (f + 1) P C i a = sumNN (fun g => if fitB d P C i g = true then chF d f (putP d P i g true) (putC d C i g true) (i + 1) a else 0) d.G) := fun a => rfl
    have HSM : Hid (∀ g a, sumNN (fun g => if fitB d P C i g = true then chF d f (putP d P i g true) (putC d C i g true) (i + 1) a else 0) (g + 1) = sumNN (fun g => if fitB d P C i g = true then chF d f (putP d P i g true) (putC d C i g true) (i + 1) a else 0) g + (if fitB d P C i g = true then chF d f (putP d P i g true) (putC d C i g true) (i + 1) a else 0)) := fun g a => rfl
    have HS0 : Hid (∀ a, sumNN (fun g => if fitB d P C i g = true then chF d f (putP d P i g true) (putC d C i g true) (i + 1) a else 0) 0 = 0) := fun a => rfl
    have HLE : Hid (∀ a k, k ≤ d.G → sumNN (fun g => if fitB d P C i g = true then chF d f (putP d P i g true) (putC d C i g true) (i + 1) a else 0) k ≤ sumNN (fun g => if fitB d P C i g = true then chF d f (putP d P i g true) (putC d C i g true) (i + 1) a else 0) d.G) := fun a k hk => sumNN_mono _ hk
    obtain ⟨ch, hch⟩ : ∃ ch, chF d (f + 1) P C i = ch := ⟨_, rfl⟩
    rw [hch] at HBB HCD ⊢
    obtain ⟨SM, hSM⟩ : ∃ SM : Nat → Nat → Nat, SM = fun a => sumNN (fun g => if fitB d P C i g = true then chF d f (putP d P i g true) (putC d C i g true) (i + 1) a else 0) := ⟨_, rfl⟩
    replace HCD : Hid (∀ a, ch a = SM a d.G) := fun a => by rw [hSM]; exact HCD.out a
    replace HSM : Hid (∀ g a, SM a (g + 1) = SM a g + (if fitB d P C i g = true then chF d f (putP d P i g true) (putC d C i g true) (i + 1) a else 0)) := fun g a => by rw [hSM]; exact HSM.out g a
    replace HS0 : Hid (∀ a, SM a 0 = 0) := fun a => by rw [hSM]; exact HS0.out a
    replace HLE : Hid (∀ a k, k ≤ d.G → SM a k ≤ SM a d.G) := fun a k hk => by rw [hSM]; exact HLE.out a k hk
    clear h hC hS hB hch ht hSM IH
    obtain ⟨G, hGG⟩ : ∃ G, d.G = G := ⟨_, rfl⟩
    have HG := Lib.hid hGG
    rw [hGG] at c4 h4 hsc HS HBB HCD ⊢
    clear hGG
    go_enter Try.func74, Try.ntmps74
    go_wp2
    clear c4 g1
    go_loopw [51] (fun gv wr => ∃ (g : Nat), g ≤ G ∧ gv = .int .i64 g ∧ Hid (SumI wr sb G (fun a => S a + SM a g)) ∧ Hid (DrwAt wr lo hi X d P C) ∧ Hid (Below lo w wr)) (fun gv _ => G - (RowKit.intOf gv).toNat)
    case atStart => exact ⟨0, Nat.zero_le _, rfl, HS.out.congr (fun a _ => by rw [HS0.out]; rfl), HH, Below.refl _ _⟩
    case round =>
      clear HS HH
      obtain ⟨g, hg9, rfl, HS, HD, HBr⟩ := hrel
      by_cases hlt : g < G
      · have hj1 : (g : Int) < (G : Int) := by omega
        have hgG : g < d.G := by rw [HG.out]; exact hlt
        have CF := Lib.hid (l12Fits_spec wr lo hi X d P C i g HD.out hiN hgG)
        have HFF : Hid (fitB d P C i g = true → P g (d.pot i) = false) := fun h => (fit_free h).1
        have HCH := Lib.hid (HSM.out g)
        obtain ⟨ft, hft⟩ : ∃ b, fitB d P C i g = b := ⟨_, rfl⟩
        rw [hft] at CF HFF HCH
        clear hft
        go_wp2_with fail
        refine CF.out.mono ?_
        rintro e w1 ⟨rfl, b⟩
        have HD1 := Lib.hid (HD.out.below b)
        have HS1 := Lib.hid (HS.out.below b)
        have HB1 : Hid (Below lo w w1) := HBr.out.trans (b.mono (Nat.le_trans hls HBr.out.size))
        clear b CF HD HS HBr
        cases ft with
        | false =>
          have HSx : Hid (SumI w1 sb G (fun a => S a + SM a (g + 1))) := HS1.out.congr fun a _ => by rw [HCH.out a]; simp
          clear HCH HFF
          go_wp2
          go_roundw
          case rel => exact ⟨g + 1, by omega, by go_num, HSx, HD1, HB1⟩
          case measure => simp [RowKit.intOf]; omega
        | true =>
          have hcb := HC.out g _ hgG hcl6
          have CP := Lib.hid (l12Put_spec w1 lo hi X d P C i g true HD1.out hiN hgG (by omega))
          have HPB : Hid (putP d (putP d P i g true) i g false = P) := putP_back (HFF.out rfl)
          have HCB : Hid (putC d (putC d C i g true) i g false = C) := putC_back
          have HCN := Lib.hid (HC.out.put hgG hcl6)
          clear HFF
          go_wp2_with fail
          refine CP.out.mono ?_
          rintro e w2 ⟨rfl, hd2, ht2⟩
          have HD2 := Lib.hid hd2
          have HS2 := Lib.hid (HS1.out.touch ht2 hsb)
          have HB2 : Hid (Below lo w w2) := HB1.out.trans (ht2.below (Nat.le_refl _) (Nat.le_trans hls HB1.out.size))
          clear hd2 ht2 CP HD1 HS1 HB1
          have CR := Lib.hid (HIH.out (i + 1) t _ _ _ w2 (by have := HT9.out; omega) (by omega) HD2.out HCN.out (by rw [HG.out]; exact HS2.out) (fun a ha => by
            have h1 := HBB.out a (by rw [← HG.out]; exact ha)
            have h2 := HLE.out a (g + 1) hgG
            rw [HCH.out a] at h2
            simp only [if_true] at h2
            rw [HCD.out a, ← HG.out] at h1
            show S a + SM a g + _ ≤ _
            omega))
          have hcn := HCN.out g _ hgG hcl6
          have CP2 := Lib.hid (fun wa ha => l12Put_spec wa lo hi X d (putP d P i g true) (putC d C i g true) i g false ha hiN hgG (by omega))
          rw [HPB.out, HCB.out] at CP2
          rw [HG.out] at CR
          clear HPB HCB hcn
          have HCX : Hid (∀ a, SM a (g + 1) = SM a g + chF d f (putP d P i g true) (putC d C i g true) (i + 1) a) := fun a => by rw [HCH.out a]; simp
          clear HCH
          generalize chF d f (putP d P i g true) (putC d C i g true) (i + 1) = cc at *
          go_wp2_with fail
          refine CR.out.mono ?_
          rintro e w4 ⟨rfl, hd3, hs3, hb3⟩
          have HD4 := Lib.hid hd3
          have HS4 : Hid (SumI w4 sb G (fun a => S a + SM a (g + 1))) := hs3.congr fun a _ => by rw [HCX.out a, Nat.add_assoc]
          have HB4 : Hid (Below lo w w4) := HB2.out.trans hb3
          clear hd3 hs3 hb3 CR HD2 HS2 HB2
          have CPx := Lib.hid (CP2.out _ HD4.out)
          go_wp2_with fail
          refine CPx.out.mono ?_
          rintro e w5 ⟨rfl, hd5, ht5⟩
          have HD5 := Lib.hid hd5
          have HS5 := Lib.hid (HS4.out.touch ht5 hsb)
          have HB5 : Hid (Below lo w w5) := HB4.out.trans (ht5.below (Nat.le_refl _) (Nat.le_trans hls HB4.out.size))
          clear hd5 ht5 CPx HD4 HS4 HB4
          go_wp2
          go_roundw
          case rel => exact ⟨g + 1, by omega, by go_num, HS5, HD5, HB5⟩
          case measure => simp [RowKit.intOf]; omega
      obtain rfl : G = g := by omega
      go_wp2
      refine bodyPost_end (results_none rfl _ _ _) rfl ?_
      exact ⟨rfl, HD.out, HS.out.congr fun a ha => by rw [HCD.out a], HBr.out⟩
end Go.Proofs.Ytmhkkdnopcdibaa
set_option linter.unusedVariables false
namespace Go.Proofs.Ytmhkkdnopcdibaa
open Go.RowKit

theorem mono_ofD {S : Nat → Nat} (hm : ∀ k, S k ≤ S (k + 1)) {a : Nat} : ∀ {b : Nat}, a ≤ b → S a ≤ S b
  | 0, h => by have : a = 0 := by omega
               subst this; exact Nat.le_refl _
  | b + 1, h => by
    by_cases e : a = b + 1
    · subst e; exact Nat.le_refl _
    · exact Nat.le_trans (mono_ofD hm (by omega)) (hm b)
theorem pick_some {S : Nat → Nat} (h0 : S 0 = 0) {x : Nat} : ∀ {G : Nat}, x < S G → ∃ g, g < G ∧ x < S (g + 1) ∧ S g ≤ x
  | 0, h => by rw [h0] at h; omega
  | G + 1, h => by
    by_cases h1 : x < S G
    · obtain ⟨g, a, b, c⟩ := pick_some h0 h1
      exact ⟨g, by omega, b, c⟩
    · exact ⟨G, by omega, h, by omega⟩
theorem pick_ok {S : Nat → Nat} (hm : ∀ k, S k ≤ S (k + 1)) {x g G : Nat} (hg : g < G) (h1 : x < S (g + 1)) (h2 : S g ≤ x) : pickG S x G = g :=
  pickG_is hg h1 fun k hk h => by
    have := mono_ofD hm (show k + 1 ≤ g by omega)
    omega
theorem befS_mono (d : DrwD) (i : Nat) (P : Nat → Nat → Bool) (C : Nat → Nat → Int) (k : Nat) : befS d i P C k ≤ befS d i P C (k + 1) := by rw [befS_succ]; omega
theorem befS_zero (d : DrwD) (i : Nat) (P : Nat → Nat → Bool) (C : Nat → Nat → Int) : befS d i P C 0 = 0 := rfl
theorem pick_fit {d : DrwD} {P : Nat → Nat → Bool} {C : Nat → Nat → Int} {i f x : Nat} (hi : i + (f + 1) = d.N) (hx : x < cntF d (f + 1) P C i) :
    ∃ g, g < d.G ∧ pickG (befS d i P C) x d.G = g ∧ fitB d P C i g = true ∧ befS d i P C g ≤ x ∧ x - befS d i P C g < cntF d f (putP d P i g true) (putC d C i g true) (i + 1) := by
  have e1 : d.N - i = f + 1 := by omega
  have e2 : d.N - (i + 1) = f := by omega
  have hc := cnt_bef (d := d) (P := P) (C := C) (i := i) (by omega)
  rw [e1] at hc
  rw [hc] at hx
  obtain ⟨g, hg, h1, h2⟩ := pick_some (befS_zero d i P C) hx
  refine ⟨g, hg, pick_ok (befS_mono d i P C) hg h1 h2, ?_⟩
  rw [befS_succ, e2] at h1
  by_cases hf : fitB d P C i g = true
  · rw [if_pos hf] at h1
    exact ⟨hf, h2, by omega⟩
  · rw [if_neg hf] at h1
    omega
theorem at_ok (d : DrwD) : ∀ (f : Nat) (P : Nat → Nat → Bool) (C : Nat → Nat → Int) (i x : Nat), i + f = d.N → x < cntF d f P C i →
    (begF d (atF d f P C i x) i P C).isSome = true ∧ idxF d (atF d f P C i x) i P C = x
  | 0, P, C, i, x, hi, hx => by
    have e : i = d.N := by omega
    have e1 : cntF d 0 P C i = 1 := by show (if i = d.N then 1 else 0) = 1; rw [if_pos e]
    rw [e1] at hx
    refine ⟨rfl, ?_⟩
    show 0 = x
    omega
  | f + 1, P, C, i, x, hi, hx => by
    obtain ⟨g, hg, hp, hf, hb, hlt⟩ := pick_fit hi hx
    obtain ⟨h1, h2⟩ := at_ok d f (putP d P i g true) (putC d C i g true) (i + 1) (x - befS d i P C g) (by omega) hlt
    have e : atF d (f + 1) P C i x = ((g : Nat) : Int) :: atF d f (putP d P i g true) (putC d C i g true) (i + 1) (x - befS d i P C g) := by rw [← hp]; rfl
    rw [e, begF_cons, idxF_cons, Int.toNat_natCast, if_pos ⟨⟨by omega, by omega⟩, hf⟩]
    refine ⟨h1, ?_⟩
    rw [h2]
    show befS d i P C g + (x - befS d i P C g) = x
    omega
def lessP (a b : List Int) : Prop := ∃ k, k < a.length ∧ k < b.length ∧ (∀ j, j < k → getI a j = getI b j) ∧ getI a k < getI b k
theorem getI_cons_zero (x : Int) (L : List Int) : getI (x :: L) 0 = x := rfl
theorem getI_cons_succ (x : Int) (L : List Int) (k : Nat) : getI (x :: L) (k + 1) = getI L k := rfl
theorem at_less (d : DrwD) : ∀ (f : Nat) (P : Nat → Nat → Bool) (C : Nat → Nat → Int) (i x y : Nat), i + f = d.N → x < y → y < cntF d f P C i → lessP (atF d f P C i x) (atF d f P C i y)
  | 0, P, C, i, x, y, hi, hxy, hy => by
    have e1 : cntF d 0 P C i = 1 := by show (if i = d.N then 1 else 0) = 1; rw [if_pos (by omega)]
    omega
  | f + 1, P, C, i, x, y, hi, hxy, hy => by
    obtain ⟨g, hg, hp, hf, hb, hlt⟩ := pick_fit hi (Nat.lt_trans hxy hy)
    obtain ⟨k, hk, hq, hfk, hbk, hltk⟩ := pick_fit hi hy
    have e1 : atF d (f + 1) P C i x = ((g : Nat) : Int) :: atF d f (putP d P i g true) (putC d C i g true) (i + 1) (x - befS d i P C g) := by rw [← hp]; rfl
    have e2 : atF d (f + 1) P C i y = ((k : Nat) : Int) :: atF d f (putP d P i k true) (putC d C i k true) (i + 1) (y - befS d i P C k) := by rw [← hq]; rfl
    rw [e1, e2]
    by_cases hgk : g = k
    · subst hgk
      obtain ⟨j, j1, j2, j3, j4⟩ := at_less d f (putP d P i g true) (putC d C i g true) (i + 1) (x - befS d i P C g) (y - befS d i P C g) (by omega) (by omega) hltk
      refine ⟨j + 1, by simpa using j1, by simpa using j2, fun m hm => ?_, by rw [getI_cons_succ, getI_cons_succ]; exact j4⟩
      cases m with
      | zero => rfl
      | succ m => rw [getI_cons_succ, getI_cons_succ]; exact j3 m (by omega)
    · refine ⟨0, by simp, by simp, fun m hm => absurd hm (Nat.not_lt_zero _), ?_⟩
      rw [getI_cons_zero, getI_cons_zero]
      have : g < k := by
        apply Nat.lt_of_not_le
        intro h9
        have h8 : befS d i P C (k + 1) ≤ befS d i P C g := mono_ofD (befS_mono d i P C) (by omega)
        rw [befS_succ, if_pos hfk, show d.N - (i + 1) = f by omega] at h8
        omega
      omega
theorem sumNN_congr {f g : Nat → Nat} : ∀ n, (∀ k, k < n → f k = g k) → sumNN f n = sumNN g n
  | 0, _ => rfl
  | n + 1, h => by
    show sumNN f n + f n = sumNN g n + g n
    rw [sumNN_congr n fun k hk => h k (by omega), h n (by omega)]
theorem sumNN_add (f g : Nat → Nat) : ∀ n, sumNN (fun k => f k + g k) n = sumNN f n + sumNN g n
  | 0 => rfl
  | n + 1 => by
    show sumNN (fun k => f k + g k) n + (f n + g n) = (sumNN f n + f n) + (sumNN g n + g n)
    rw [sumNN_add f g n]
    omega
theorem sumNN_none : ∀ n, sumNN (fun _ => 0) n = 0
  | 0 => rfl
  | n + 1 => by show sumNN (fun _ => 0) n + 0 = 0; rw [sumNN_none n]
theorem sumNN_swap (a : Nat → Nat → Nat) (n : Nat) : ∀ m, sumNN (fun h => sumNN (fun g => a g h) n) m = sumNN (fun g => sumNN (fun h => a g h) m) n
  | 0 => by show 0 = sumNN (fun g => 0) n; rw [sumNN_none]
  | m + 1 => by
    show sumNN (fun h => sumNN (fun g => a g h) n) m + sumNN (fun g => a g m) n = sumNN (fun g => sumNN (fun h => a g h) m + a g m) n
    rw [sumNN_swap a n m, sumNN_add]
theorem sumNN_if (c : Prop) [Decidable c] (u : Nat → Nat) (n : Nat) : sumNN (fun h => if c then u h else 0) n = if c then sumNN u n else 0 := by
  by_cases h : c
  · rw [if_pos h]; exact sumNN_congr n fun k _ => if_pos h
  · rw [if_neg h]; exact (sumNN_congr n fun k _ => if_neg h).trans (sumNN_none n)
theorem sum_ch (d : DrwD) : ∀ (f : Nat) (P : Nat → Nat → Bool) (C : Nat → Nat → Int) (i : Nat), i + f < d.N → sumNN (fun h => chF d f P C i h) d.G = cntF d (d.N - i) P C i
  | 0, P, C, i, hi => by rw [cnt_bef (by omega)]; rfl
  | f + 1, P, C, i, hi => by
    rw [cnt_bef (by omega)]
    show sumNN (fun h => sumNN (fun g => if fitB d P C i g = true then chF d f (putP d P i g true) (putC d C i g true) (i + 1) h else 0) d.G) d.G = _
    rw [sumNN_swap]
    unfold befS
    refine sumNN_congr _ fun g hg => ?_
    rw [sumNN_if]
    by_cases hf : fitB d P C i g = true
    · rw [if_pos hf, if_pos hf]
      exact sum_ch d f _ _ (i + 1) (by omega)
    · rw [if_neg hf, if_neg hf]
theorem begF_apart (d : DrwD) : ∀ (L : List Int) (i : Nat) (P : Nat → Nat → Bool) (C : Nat → Nat → Int), (begF d L i P C).isSome = true →
    (∀ j, j < L.length → P (getI L j).toNat (d.pot (i + j)) = false ∧ 0 ≤ getI L j ∧ getI L j ≤ (d.G : Int) - 1) ∧ ∀ j k, j < k → k < L.length → getI L j = getI L k → d.pot (i + j) ≠ d.pot (i + k)
  | [], i, P, C, _ => ⟨fun j hj => absurd hj (Nat.not_lt_zero _), fun j k _ hk => absurd hk (Nat.not_lt_zero _)⟩
  | x :: L, i, P, C, h => by
    rw [begF_cons] at h
    by_cases hx : (0 ≤ x ∧ x ≤ (d.G : Int) - 1) ∧ fitB d P C i x.toNat = true
    · rw [if_pos hx] at h
      obtain ⟨h1, h2⟩ := begF_apart d L (i + 1) _ _ h
      have hf := (fit_free hx.2).1
      have key : ∀ j, j < L.length → P (getI L j).toNat (d.pot (i + 1 + j)) = false ∧ ¬ ((getI L j).toNat = x.toNat ∧ d.pot (i + 1 + j) = d.pot i) := fun j hj => by
        have h3 := (h1 j hj).1
        unfold putP at h3
        by_cases e : (getI L j).toNat = x.toNat ∧ d.pot (i + 1 + j) = d.pot i
        · rw [if_pos e] at h3; cases h3
        · rw [if_neg e] at h3; exact ⟨h3, e⟩
      refine ⟨fun j hj => ?_, fun j k hjk hk e => ?_⟩
      · cases j with
        | zero => exact ⟨hf, hx.1⟩
        | succ j =>
          have hj' : j < L.length := by simpa using hj
          rw [getI_cons_succ, show i + (j + 1) = i + 1 + j by omega]
          exact ⟨(key j hj').1, (h1 j hj').2⟩
      · cases k with
        | zero => omega
        | succ k =>
          have hk' : k < L.length := by simpa using hk
          rw [getI_cons_succ] at e
          rw [show i + (k + 1) = i + 1 + k by omega]
          cases j with
          | zero =>
            rw [getI_cons_zero] at e
            intro e2
            exact (key k hk').2 ⟨by rw [e], e2.symm⟩
          | succ j =>
            rw [getI_cons_succ] at e
            rw [show i + (j + 1) = i + 1 + j by omega]
            exact h2 j k (by omega) hk' e
    · rw [if_neg hx] at h; cases h
theorem nodup_ltD : ∀ (n : Nat) (L : List Nat), L.Nodup → (∀ x ∈ L, x < n) → L.length ≤ n
  | 0, [], _, _ => Nat.le_refl _
  | 0, x :: _, _, h => absurd (h x (List.mem_cons_self ..)) (Nat.not_lt_zero _)
  | n + 1, L, hn, h => by
    have h1 : (L.erase n).length ≤ n := nodup_ltD n _ (hn.erase n) fun x hx => by
      have h2 := (hn.mem_erase_iff).1 hx
      have := h x h2.2
      omega
    rw [List.length_erase] at h1
    split at h1 <;> omega
theorem nodup_mapD {f : Nat → Nat} : ∀ {L : List Nat}, L.Nodup → (∀ a ∈ L, ∀ b ∈ L, a < b → f a ≠ f b) → (L.map f).Nodup
  | [], _, _ => List.nodup_nil
  | a :: L, h, hf => by
    have hn := List.nodup_cons.1 h
    refine List.nodup_cons.2 ⟨fun hm => ?_, nodup_mapD hn.2 fun x hx y hy => hf x (List.mem_cons_of_mem _ hx) y (List.mem_cons_of_mem _ hy)⟩
    obtain ⟨b, hb, e⟩ := List.mem_map.1 hm
    have hne : a ≠ b := fun e2 => hn.1 (e2 ▸ hb)
    rcases Nat.lt_or_gt_of_ne hne with h1 | h1
    · exact hf a (List.mem_cons_self ..) b (List.mem_cons_of_mem _ hb) h1 e.symm
    · exact hf b (List.mem_cons_of_mem _ hb) a (List.mem_cons_self ..) h1 e
theorem group_len {d : DrwD} {L FT : List Int} {g : Int} {k : Nat} (h : (begF d L 0 noP noC).isSome = true) (hpot : ∀ i, i < k → d.pot i < d.NP) (hk : k ≤ L.length) : (grpL FT L g k).length ≤ d.NP := by
  have h2 := (begF_apart d L 0 noP noC h).2
  unfold grpL
  rw [List.length_map]
  generalize hI : ((List.range k).filter fun i => decide (i < L.length) && (getI L i == g)) = I
  have hm : ∀ i ∈ I, i < k ∧ getI L i = g := fun i hi => by
    rw [← hI, List.mem_filter, List.mem_range] at hi
    simp only [Bool.and_eq_true, decide_eq_true_eq, beq_iff_eq] at hi
    exact ⟨hi.1, hi.2.2⟩
  have hn : I.Nodup := by rw [← hI]; exact List.Nodup.sublist List.filter_sublist List.nodup_range
  have h3 : (I.map d.pot).Nodup := nodup_mapD hn fun a ha b hb hab => by
    have := h2 a b hab (by have := (hm b hb).1; omega) ((hm a ha).2.trans (hm b hb).2.symm)
    simpa using this
  have h4 := nodup_ltD d.NP (I.map d.pot) h3 fun x hx => by
    obtain ⟨i, hi, rfl⟩ := List.mem_map.1 hx
    exact hpot i (hm i hi).1
  rwa [List.length_map] at h4
theorem cdN_one {F : Nat → TeamD} {T : List (List Int)} {gr most : Int} {g : Nat} (hN : 1 ≤ T.flatten.length) (hg : g < gr.toNat) :
    cdN F T gr most [(g : Int)] = ((if fitB (drwD F T gr most) noP noC 0 g = true then cntF (drwD F T gr most) (T.flatten.length - 1) (putP (drwD F T gr most) noP 0 g true) (putC (drwD F T gr most) noC 0 g true) 1 else 0 : Nat) : Int) := by
  have hG : (drwD F T gr most).G = gr.toNat := rfl
  have hNN : (drwD F T gr most).N = T.flatten.length := rfl
  unfold cdN begB
  rw [if_pos (show [(g : Int)].length ≤ (drwD F T gr most).N from hN), begF_cons]
  by_cases hf : fitB (drwD F T gr most) noP noC 0 g = true
  · rw [if_pos hf, if_pos ⟨⟨by omega, by rw [hG]; omega⟩, by rw [Int.toNat_natCast]; exact hf⟩]
    rfl
  · rw [if_neg hf, if_neg (fun h => hf (by have := h.2; rwa [Int.toNat_natCast] at this))]
    rfl
theorem cdN_full {F : Nat → TeamD} {T : List (List Int)} {gr most : Int} {L : List Int} (hl : L.length = T.flatten.length) (hb : (begF (drwD F T gr most) L 0 noP noC).isSome = true) : cdN F T gr most L = 1 := by
  have hNN : (drwD F T gr most).N = T.flatten.length := rfl
  unfold cdN begB
  rw [if_pos (by rw [hNN, hl]; exact Nat.le_refl _)]
  obtain ⟨⟨P, C⟩, h⟩ := Option.isSome_iff_exists.1 hb
  rw [h]
  show ((cntF (drwD F T gr most) (T.flatten.length - L.length) P C L.length : Nat) : Int) = 1
  rw [hl, Nat.sub_self]
  show (((if T.flatten.length = (drwD F T gr most).N then 1 else 0 : Nat)) : Int) = 1
  rw [if_pos hNN.symm]
  rfl
end Go.Proofs.Ytmhkkdnopcdibaa
