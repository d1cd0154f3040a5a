/-
  Packed: Draw8, Draw9, Draw10, OpenTeams, TyTeam, DrawTy, FieldImpl.
-/
import Derived.Deep.Slices
import Derived.Deep.Strs
import Derived.Lib.SmallJoins
import Derived.ChangeOld
import Derived.OpenShut
import Derived.ShutString
import Derived.Test.YtmhkkdnopcdibaaQ2
import Derived.Test.YtmhkkdnopcdibaaQ3
import Derived.Test.YtmhkkdnopcdibaaQ4
import Derived.Test.YtmhkkdnopcdibaaQ5
import Derived.Test.YtmhkkdnopcdibaaQ6
import Derived.Test.YtmhkkdnopcdibaaQ7
import Derived.Test.YtmhkkdnopcdibaaQ10
set_option linter.unusedVariables false
namespace Go.Proofs.Ytmhkkdnopcdibaa
open Go.RowKit

theorem pots_twelve {nf : Nat} {F : Nat → TeamD} {T : List (List Int)} {gr most : Int} (hp : potsP nf F T gr most) : (drwD F T gr most).G ≤ 4 ∧ T.flatten.length ≤ 12 := by
  obtain ⟨_, hg, _, ht, hr, _⟩ := hp
  refine ⟨by show gr.toNat ≤ 4; omega, ?_⟩
  have h1 := flat_most (G := gr.toNat) T fun i hi => by have := (hr i hi).2; omega
  have h2 : T.length * gr.toNat ≤ 3 * 4 := Nat.mul_le_mul (by omega) (by omega)
  omega
theorem cdN_none (F : Nat → TeamD) (T : List (List Int)) (gr most : Int) : cdN F T gr most [] = (cntF (drwD F T gr most) T.flatten.length noP noC 0 : Nat) := by
  have h : begB (drwD F T gr most) [] noP noC = some (noP, noC) := if_pos (Nat.zero_le _)
  unfold cdN
  rw [h]
  rfl
def NthM (w : World) (R : Option (List Int)) (e : Ending) (w' : World) : Prop :=
  match R with
  | none => e = .returned (.tuple #[.slice none 0 0, .bool false]) ∧ Below w.heap.size w w'
  | some L => ∃ v, e = .returned (.tuple #[v, .bool true]) ∧ w'.ownsRow w.heap.size 3 1 v L.length (L.map (Value.int .i64)) ∧ Below w.heap.size w w'
def nthL (F : Nat → TeamD) (T : List (List Int)) (gr most c x : Int) : Option (List Int) := if 0 ≤ x ∧ x ≤ c - 1 then some (atF (drwD F T gr most) T.flatten.length noP noC 0 x.toNat) else none
set_option maxRecDepth 100000 in
set_option maxHeartbeats 4000000 in
theorem nthDraw_spec (vf : Value) (nf : Nat) (F : Nat → TeamD) (vp : Value) (gr most : Int) (T : List (List Int)) (c x : Int) (w : World) (hc : potsP nf F T gr most → c = cdN F T gr most []) (hc0 : ¬ potsP nf F T gr most → c = 0) (hf : TeamRow w vf nf F) (hs : ∀ i, (F i).nm.size ≤ maxLen) (h : RdA tIntSS w [vp] T) (hw : tIntSS.wt T ≤ 1048576) :
    Calls Try.prog 33 #[vf, .agg #[vp, .int .i64 gr, .int .i64 most], .int .i64 x] w (NthM w (nthL F T gr most c x)) := by
  obtain ⟨pa, pc, rfl, hpn⟩ := pots_form h
  obtain ⟨U, hU⟩ : ∃ U, w.alloc (.cells #[.slice pa (List.length (α := List Int) T) pc, .int .i64 gr, .int .i64 most] 26) = U := ⟨_, rfl⟩
  have bU : Below w.heap.size w U := by rw [← hU]; exact (Below.refl _ _).alloc (Nat.le_refl _) _
  have HS : Hid (PotsAt U w.heap.size pa (List.length (α := List Int) T) pc gr most T) := by rw [← hU]; exact PotsAt.made h
  have HB := Lib.hid bU
  have HF : Hid (TeamRow U vf nf F) := hf.below bU (Nat.le_refl _)
  have CF := Lib.hid (countDraws_spec l12New_spec vf nf F (.slice pa (List.length (α := List Int) T) pc) gr most T (.slice none 0 0) [] c U hc hc0 HF.out hs HS.out.2 hw (.inl ⟨none, 0, rfl, rfl⟩))
  have CA : Hid (∀ (y : Nat) (wa : World), potsP nf F T gr most → y < cntF (drwD F T gr most) T.flatten.length noP noC 0 → TeamRow wa vf nf F → RdA tIntSS wa [.slice pa (List.length (α := List Int) T) pc] T → Calls Try.prog 68 #[vf, .agg #[.slice pa (List.length (α := List Int) T) pc, .int .i64 gr, .int .i64 most], .int .i64 y] wa (IntsL wa (atF (drwD F T gr most) T.flatten.length noP noC 0 y))) := fun y wa h1 h2 h3 h4 => l12At_spec _ _ _ _ _ _ _ y wa h1 h2 h3 h4 hw
  have hcb : 0 ≤ c ∧ c ≤ 67108864 := by
    by_cases hp : potsP nf F T gr most
    · rw [hc hp, cdN_none]
      obtain ⟨h1, h2⟩ := pots_twelve hp
      have h3 := cntF_le (drwD F T gr most) h1 T.flatten.length noP noC 0
      have h5 : 4 ^ T.flatten.length ≤ 4 ^ 12 := Nat.pow_le_pow_right (by decide) h2
      have h6 : 4 ^ 12 ≤ 67108864 := by decide
      omega
    · rw [hc0 hp]; omega
  have HXR : Hid (0 ≤ x ∧ x ≤ c - 1 → potsP nf F T gr most ∧ x.toNat < cntF (drwD F T gr most) T.flatten.length noP noC 0) := fun hx => by
    by_cases hp : potsP nf F T gr most
    · refine ⟨hp, ?_⟩
      rw [hc hp, cdN_none] at hx
      omega
    · rw [hc0 hp] at hx; omega
  obtain ⟨r2, hr2⟩ := boolEx (0 ≤ x ∧ x ≤ c - 1)
  have HR2 := Lib.hid hr2
  have CI : Hid (∀ wa, Calls Try.prog 58 #[.int .i64 x, .int .i64 0, .int .i64 (c - 1)] wa fun e w' => e = .returned (.bool r2) ∧ wa = w') := fun wa => by
    cases r2 with
    | true => exact (l01In_yes _ _ _ _ (hr2.1 rfl)).mono fun e w' h => h
    | false => exact (l01In_no _ _ _ _ (fun h => by have := hr2.2 h; cases this)).mono fun e w' h => h
  have HNL : Hid (nthL F T gr most c x = if 0 ≤ x ∧ x ≤ c - 1 then some (atF (drwD F T gr most) T.flatten.length noP noC 0 x.toNat) else none) := rfl
  obtain ⟨RR, hRR⟩ : ∃ RR, nthL F T gr most c x = RR := ⟨_, rfl⟩
  rw [hRR] at HNL ⊢
  obtain ⟨np, hnp⟩ : ∃ np, List.length (α := List Int) T = np := ⟨_, rfl⟩
  rw [hnp] at hU HS CF CA ⊢
  have c0 := HS.out.1.2 0 _ rfl
  have c1 := HS.out.1.2 1 _ rfl
  have c2 := HS.out.1.2 2 _ rfl
  clear h hf hc hc0 hr2 bU hw hs hnp hpn hRR
  go_enter Try.func33, Try.ntmps33
  go_wp2_with fail
  clear hU c0 c1 c2
  refine CF.out.mono ?_
  rintro e w1 ⟨rfl, b⟩
  have HS1 := Lib.hid (HS.out.below b)
  have HF1 := Lib.hid (HF.out.below b (Nat.le_refl _))
  have HB1 := Lib.hid (HB.out.trans (b.mono HB.out.size))
  clear b HS HB CF HF
  have c0 := HS1.out.1.2 0 _ rfl
  have c1 := HS1.out.1.2 1 _ rfl
  have c2 := HS1.out.1.2 2 _ rfl
  go_wp2_with fail
  refine (CI.out _).mono ?_
  rintro e wx ⟨rfl, rfl⟩
  cases r2 with
  | false =>
    have HRx : Hid (RR = none) := by show _ = _; rw [HNL.out, if_neg (fun h => by have := HR2.out.2 h; cases this)]
    go_wp2
    refine bodyPost_ret (v := .tuple #[.slice none 0 0, .bool false]) (by simp [results, Try.results33, go_sem]) rfl ?_
    rw [HRx.out]
    exact ⟨rfl, HB1.out⟩
  | true =>
    have hx := HR2.out.1 (by first | rfl | trivial)
    have HRx : Hid (RR = some (atF (drwD F T gr most) T.flatten.length noP noC 0 x.toNat)) := by show _ = _; rw [HNL.out, if_pos hx]
    obtain ⟨hp, hxc⟩ := HXR.out hx
    obtain ⟨y, rfl⟩ : ∃ y : Nat, x = y := ⟨x.toNat, by omega⟩
    rw [Int.toNat_natCast] at HRx hxc
    have CA1 := Lib.hid (CA.out y w1 hp hxc HF1.out HS1.out.2)
    clear hp hxc hx CA HXR HNL HR2
    generalize atF (drwD F T gr most) T.flatten.length noP noC 0 y = LL at *
    go_wp2_with fail
    refine CA1.out.mono ?_
    rintro e w3 ⟨v, rfl, ho, b⟩
    have HO3 := Lib.hid ho
    have HB3 := Lib.hid (HB1.out.trans (b.mono HB1.out.size))
    have HSZ : Hid (w.heap.size ≤ w1.heap.size) := HB1.out.size
    clear ho b CA1 c0 c1 c2
    go_wp2
    refine bodyPost_ret (v := .tuple #[v, .bool true]) (by simp [results, Try.results33, go_sem]) rfl ?_
    rw [HRx.out]
    exact ⟨v, rfl, owns_mono HO3.out HSZ.out, HB3.out⟩
end Go.Proofs.Ytmhkkdnopcdibaa
set_option linter.unusedVariables false
namespace Go.Proofs.Ytmhkkdnopcdibaa
open Go.RowKit

theorem sumNN_mono (f : Nat → Nat) : ∀ {n k : Nat}, k ≤ n → sumNN f k ≤ sumNN f n
  | 0, k, h => by obtain rfl : k = 0 := by omega
                  exact Nat.le_refl _
  | n + 1, k, h => by
    by_cases e : k = n + 1
    · rw [e]; exact Nat.le_refl _
    · exact Nat.le_trans (sumNN_mono f (show k ≤ n by omega)) (Nat.le_add_right _ _)
def chF (d : DrwD) : Nat → (Nat → Nat → Bool) → (Nat → Nat → Int) → Nat → Nat → Nat
  | 0, P, C, i, h => if fitB d P C i h = true then cntF d (d.N - (i + 1)) (putP d P i h true) (putC d C i h true) (i + 1) else 0
  | f + 1, P, C, i, h => sumNN (fun g => if fitB d P C i g = true then chF d f (putP d P i g true) (putC d C i g true) (i + 1) h else 0) d.G
def SumI (w : World) (sb G : Nat) (S : Nat → Nat) : Prop := w.rowIs sb 3 G (fun g => .int .i64 (S g : Nat)) ∧ ∀ g, g < G → w.cell? ⟨sb, g, none⟩ = some (.int .i64 (S g : Nat)) ∧ w.frozen? ⟨sb, g, none⟩ = false
theorem SumI.of {w : World} {sb G : Nat} {S : Nat → Nat} (h : w.rowIs sb 3 G (fun g => .int .i64 (S g : Nat))) : SumI w sb G S := ⟨h, fun g hg => ⟨h.cell hg, h.frozen g⟩⟩
theorem SumI.congr {w : World} {sb G : Nat} {S S' : Nat → Nat} (h : SumI w sb G S) (e : ∀ g, g < G → S g = S' g) : SumI w sb G S' := SumI.of (h.1.congr fun g hg => by rw [e g hg])
theorem SumI.below {w w' : World} {sb G : Nat} {S : Nat → Nat} (h : SumI w sb G S) (b : Below w.heap.size w w') : SumI w' sb G S := SumI.of (h.1.of_block (b.block sb h.1.lt))
theorem SumI.touch {w w' : World} {lo hi sb G : Nat} {S : Nat → Nat} (h : SumI w sb G S) (t : Touch lo hi w w') (hs : hi ≤ sb) : SumI w' sb G S := SumI.of (h.1.of_block (t.block sb h.1.lt (.inr hs)))
theorem SumI.set {w : World} {sb G : Nat} {S : Nat → Nat} (h : SumI w sb G S) {g z : Nat} (hg : g < G) : SumI (w.setCell ⟨sb, g, none⟩ (.int .i64 (z : Nat))) sb G (fun a => if a = g then z else S a) :=
  SumI.of ((h.1.set g (.int .i64 (z : Nat))).congr fun a _ => by
    show (if a = g then Value.int .i64 (z : Nat) else _) = Value.int .i64 ((if a = g then z else S a : Nat) : Int)
    by_cases e : a = g
    · rw [if_pos e, if_pos e]
    · rw [if_neg e, if_neg e])
theorem SumI.owns {w : World} {sb G base : Nat} {S : Nat → Nat} (h : SumI w sb G S) (hG : G ≤ 4) (hb : base ≤ sb) : w.ownsRow base 3 1 (.slice (some ⟨sb, 0, none⟩) G G) G ((List.range G).map fun g => Value.int .i64 (S g : Nat)) := by
  obtain ⟨c, h1, h2, h3⟩ := h.1
  refine ⟨by simp, .inr ⟨sb, G, c, rfl, hb, h1, Nat.le_refl _, by unfold maxLen; omega, by rw [h2, Nat.mul_one], ?_⟩⟩
  rw [Nat.mul_one]
  apply List.ext_getElem?
  intro i
  rw [List.getElem?_take, List.getElem?_map]
  by_cases hi : i < G
  · rw [if_pos hi, List.getElem?_range hi]
    have h4 := h3 i hi
    simpa using h4
  · rw [if_neg hi, List.getElem?_eq_none (by simpa using hi)]
    rfl
theorem chF_le (d : DrwD) (hG : d.G ≤ 4) (hN : d.N ≤ 12) : ∀ (f : Nat) (P : Nat → Nat → Bool) (C : Nat → Nat → Int) (i h : Nat), chF d f P C i h ≤ 4 ^ f * 4 ^ 12
  | 0, P, C, i, h => by
    show (if _ then _ else _) ≤ _
    split
    · have h1 := cntF_le d hG (d.N - (i + 1)) (putP d P i h true) (putC d C i h true) (i + 1)
      have h2 : 4 ^ (d.N - (i + 1)) ≤ 4 ^ 12 := Nat.pow_le_pow_right (by decide) (by omega)
      rw [Nat.pow_zero, Nat.one_mul]
      omega
    · exact Nat.zero_le _
  | f + 1, P, C, i, h => by
    refine Nat.le_trans (sumNN_le (B := 4 ^ f * 4 ^ 12) d.G fun g hg => ?_) ?_
    · show (if _ then _ else _) ≤ _
      split
      · exact chF_le d hG hN f _ _ _ _
      · exact Nat.zero_le _
    · have e : (4 : Nat) ^ (f + 1) = 4 * 4 ^ f := by rw [Nat.pow_succ, Nat.mul_comm]
      rw [e, Nat.mul_assoc]
      exact Nat.mul_le_mul_right _ hG
set_option maxRecDepth 100000 in
set_option maxHeartbeats 8000000 in
theorem l12Chances_spec (lo hi X sb sc : Nat) (d : DrwD) (hsb : hi ≤ sb) (hsc : d.G ≤ sc) : ∀ (f i t : Nat) (P : Nat → Nat → Bool) (C : Nat → Nat → Int) (S : Nat → Nat) (w : World), t = i + f → i + f < d.N → DrwAt w lo hi X d P C → clubB d C i → SumI w sb d.G S → (∀ g, g < d.G → S g + chF d f P C i g ≤ 4611686018427387904) →
    Calls Try.prog 74 #[.pointer (some ⟨X, 0, none⟩), .int .i64 i, .int .i64 t, .slice (some ⟨sb, 0, none⟩) d.G sc] w fun e w' => e = .returned (.tuple #[]) ∧ DrwAt w' lo hi X d P C ∧ SumI w' sb d.G (fun g => S g + chF d f P C i g) ∧ Below lo w w' := by
  intro f
  induction f with
  | zero =>
    intro i t P C S w ht hN h hC hS hB
    have hiN : i < d.N := by omega
    have HH := Lib.hid h
    have HC := Lib.hid hC
    have HS := Lib.hid hS
    have HBB := Lib.hid hB
    have h4 : d.G ≤ 4 := h.caps.2.2.2.2.1
    have h12 : d.N ≤ 12 := h.caps.2.2.2.1
    have hcl6 := (h.club i hiN).2
    have hlh : lo < hi := Nat.lt_of_le_of_lt h.mp.low.1 h.mp.low.2
    have hls : lo ≤ w.heap.size := Nat.le_trans (Nat.le_of_lt hlh) h.mp.high
    have c4 := h.box.2 4 _ rfl
    have HSF : Hid (∀ g, chF d 0 P C i g = if fitB d P C i g = true then cntF d (d.N - (i + 1)) (putP d P i g true) (putC d C i g true) (i + 1) else 0) := fun g => rfl
    obtain ⟨ch, hch⟩ : ∃ ch, chF d 0 P C i = ch := ⟨_, rfl⟩
    rw [hch] at HBB HSF ⊢
    have g1 : ((i : Int) == (t : Int)) = true := by simp; omega
    clear h hC hS hB hch ht
    obtain ⟨G, hGG⟩ : ∃ G, d.G = G := ⟨_, rfl⟩
    have HG := Lib.hid hGG
    rw [hGG] at c4 h4 hsc HS HBB ⊢
    clear hGG
    go_enter Try.func74, Try.ntmps74
    go_wp2
    clear c4 g1
    go_loopw [18] (fun gv wr => ∃ (g : Nat), g ≤ G ∧ gv = .int .i64 g ∧ Hid (SumI wr sb G (fun a => if a < g then S a + ch a else S a)) ∧ Hid (DrwAt wr lo hi X d P C) ∧ Hid (Below lo w wr)) (fun gv _ => G - (RowKit.intOf gv).toNat)
    case atStart => exact ⟨0, Nat.zero_le _, rfl, HS.out.congr (fun a _ => by rw [if_neg (Nat.not_lt_zero _)]), HH, Below.refl _ _⟩
    case round =>
      clear HS HH
      obtain ⟨g, hg9, rfl, HS, HD, HBr⟩ := hrel
      by_cases hlt : g < G
      · have hj1 : (g : Int) < (G : Int) := by omega
        have hgG : g < d.G := by rw [HG.out]; exact hlt
        have CF := Lib.hid (l12Fits_spec wr lo hi X d P C i g HD.out hiN hgG)
        have HFF : Hid (fitB d P C i g = true → P g (d.pot i) = false) := fun h => (fit_free h).1
        have HCH := Lib.hid (HSF.out g)
        have hbd := HBB.out g hlt
        obtain ⟨ft, hft⟩ : ∃ b, fitB d P C i g = b := ⟨_, rfl⟩
        rw [hft] at CF HFF HCH
        clear hft
        go_wp2_with fail
        refine CF.out.mono ?_
        rintro e w1 ⟨rfl, b⟩
        have HD1 := Lib.hid (HD.out.below b)
        have HS1 := Lib.hid (HS.out.below b)
        have HB1 : Hid (Below lo w w1) := HBr.out.trans (b.mono (Nat.le_trans hls HBr.out.size))
        clear b CF HD HS HBr
        cases ft with
        | false =>
          have HSx : Hid (SumI w1 sb G (fun a => if a < g + 1 then S a + ch a else S a)) := HS1.out.congr fun a _ => by
            by_cases e : a = g
            · subst e
              rw [if_neg (Nat.lt_irrefl _), if_pos (Nat.lt_succ_self _), HCH.out, if_neg (by simp)]
              rfl
            · by_cases e2 : a < g
              · rw [if_pos e2, if_pos (by omega)]
              · rw [if_neg e2, if_neg (by omega)]
          clear HCH HFF
          go_wp2
          go_roundw
          case rel => exact ⟨g + 1, by omega, by go_num, HSx, HD1, HB1⟩
          case measure => simp [RowKit.intOf]; omega
        | true =>
          rw [HCH.out, if_pos rfl] at hbd
          have hcb := HC.out g _ hgG hcl6
          have CP := Lib.hid (l12Put_spec w1 lo hi X d P C i g true HD1.out hiN hgG (by omega))
          have HPB : Hid (putP d (putP d P i g true) i g false = P) := putP_back (HFF.out rfl)
          have HCB : Hid (putC d (putC d C i g true) i g false = C) := putC_back
          have HCN := Lib.hid (HC.out.put hgG hcl6)
          clear HFF
          go_wp2_with fail
          refine CP.out.mono ?_
          rintro e w2 ⟨rfl, hd2, ht2⟩
          have HD2 := Lib.hid hd2
          have HS2 := Lib.hid (HS1.out.touch ht2 hsb)
          have HB2 : Hid (Below lo w w2) := HB1.out.trans (ht2.below (Nat.le_refl _) (Nat.le_trans hls HB1.out.size))
          clear hd2 ht2 CP HD1 HS1 HB1
          have CC : Hid (∀ wa, DrwAt wa lo hi X d (putP d P i g true) (putC d C i g true) → Calls Try.prog 67 #[.pointer (some ⟨X, 0, none⟩), .int .i64 ((i : Int) + 1)] wa fun e w' => e = .returned (.int .i64 (cntF d (d.N - (i + 1)) (putP d P i g true) (putC d C i g true) (i + 1) : Nat)) ∧ DrwAt w' lo hi X d (putP d P i g true) (putC d C i g true) ∧ Touch lo hi wa w') := fun wa ha => l12Count_spec lo hi X d (d.N - (i + 1)) (i + 1) _ _ wa (by omega) ha HCN.out
          have hcn := HCN.out g _ hgG hcl6
          have CP2 := Lib.hid (fun wa ha => l12Put_spec wa lo hi X d (putP d P i g true) (putC d C i g true) i g false ha hiN hgG (by omega))
          rw [HPB.out, HCB.out] at CP2
          clear HPB HCB hcn
          obtain ⟨kk, hkk⟩ : ∃ kk, cntF d (d.N - (i + 1)) (putP d P i g true) (putC d C i g true) (i + 1) = kk := ⟨_, rfl⟩
          rw [hkk] at CC HCH hbd
          clear hkk
          have hsg : (if g < g then S g + ch g else S g) = S g := if_neg (Nat.lt_irrefl _)
          have s0 : w2.cell? ⟨sb, g, none⟩ = some (.int .i64 ((if g < g then S g + ch g else S g : Nat) : Int)) := (HS2.out.2 g hlt).1
          have f0 := (HS2.out.2 g hlt).2
          rw [hsg] at s0
          obtain ⟨sg, hSg⟩ : ∃ sg, S g = sg := ⟨_, rfl⟩
          rw [hSg] at s0 hbd
          have HSG := Lib.hid hSg
          clear hSg hsg
          have hw9 : IntKind.i64.wrap ((sg : Int) + (kk : Int)) = (sg : Int) + (kk : Int) := by rw [IntKind.wrap_i64]; omega
          have CCd := Lib.hid (CC.out w2.drew (HD2.out.below (Below.refl _ _).drew))
          have HKC : Hid (∀ wa, Touch lo hi w2 wa → wa.cell? ⟨sb, g, none⟩ = some (.int .i64 (sg : Int)) ∧ wa.frozen? ⟨sb, g, none⟩ = false) := fun wa ht => by
            have h9 : wa.cell? ⟨sb, g, none⟩ = some (.int .i64 ((if g < g then S g + ch g else S g : Nat) : Int)) ∧ wa.frozen? ⟨sb, g, none⟩ = false := (HS2.out.touch ht hsb).2 g hlt
            rw [if_neg (Nat.lt_irrefl _), HSG.out] at h9
            exact h9
          have hw8 : IntKind.i64.wrap ((i : Int) + 1) = (i : Int) + 1 := by rw [IntKind.wrap_i64]; omega
          go_wp2
          have s0d : w2.drew.cell? ⟨sb, g, none⟩ = some (.int .i64 (sg : Int)) := s0
          go_region_law
            (first | (go_simp; go_at_call 67; refine CCd.out.mono ?_; rintro e w3 ⟨rfl, hd3, ht3'⟩; have ht3 : Touch lo hi w2 w3 := (Touch.of_below (Below.refl _ _).drew).trans ht3'; have f3 := (HKC.out _ ht3).2; have e3 := (HKC.out _ ht3).1) | fail)
          all_goals (
            have hz9 : ((sg : Int) + (kk : Int)) = ((sg + kk : Nat) : Int) := by omega
            have HS4 : Hid (SumI (w3.setCell ⟨sb, g, none⟩ (.int .i64 ((sg : Int) + (kk : Int)))) sb G (fun a => if a < g + 1 then S a + ch a else S a)) := by
              rw [hz9]
              refine ((HS2.out.touch ht3 hsb).set hlt).congr fun a _ => ?_
              by_cases e : a = g
              · subst e
                rw [if_pos rfl, if_pos (Nat.lt_succ_self _), HCH.out, HSG.out]
                simp
              · rw [if_neg e]
                by_cases e2 : a < g
                · rw [if_pos e2, if_pos (by omega)]
                · rw [if_neg e2, if_neg (by omega)]
            have hsl : hi ≤ w3.heap.size := hd3.mp.high
            have HD4 := Lib.hid (hd3.belowHi (by omega) (below_setD (Below.refl hi w3) ⟨sb, g, none⟩ (.int .i64 ((sg : Int) + (kk : Int))) hsb))
            have HB4 : Hid (Below lo w (w3.setCell ⟨sb, g, none⟩ (.int .i64 ((sg : Int) + (kk : Int))))) := below_setD (HB2.out.trans (ht3.below (Nat.le_refl _) (Nat.le_trans hls HB2.out.size))) ⟨sb, g, none⟩ _ (Nat.le_trans (Nat.le_of_lt hlh) hsb)
            have CPx := Lib.hid (CP2.out _ HD4.out)
            have HZ : Hid (w.heap.size ≤ (w3.setCell ⟨sb, g, none⟩ (.int .i64 ((sg : Int) + (kk : Int)))).heap.size) := HB4.out.size
            generalize w3.setCell ⟨sb, g, none⟩ (.int .i64 ((sg : Int) + (kk : Int))) = w4 at *
            clear hz9 hd3 ht3 ht3' e3 f3 s0 s0d f0 CCd HKC HS2 HD2 HB2 CP2 CC HCH HSG
            go_wp2_with fail
            refine CPx.out.mono ?_
            rintro e w5 ⟨rfl, hd5, ht5⟩
            have HD5 := Lib.hid hd5
            have HS5 := Lib.hid (HS4.out.touch ht5 hsb)
            have HB5 : Hid (Below lo w w5) := HB4.out.trans (ht5.below (Nat.le_refl _) (Nat.le_trans hls HZ.out))
            clear hd5 ht5 CPx HD4 HS4 HB4
            go_wp2
            exact ⟨⟨g + 1, by omega, by go_num, HS5, HD5, HB5⟩, by simp [RowKit.intOf]; omega⟩)
      obtain rfl : G = g := by omega
      go_wp2
      refine bodyPost_ret (results_none rfl _ _ _) rfl ?_
      exact ⟨rfl, HD.out, HS.out.congr fun a ha => by rw [if_pos ha], HBr.out⟩
  | succ f IH =>
    intro i t P C S w ht hN h hC hS hB
    have hiN : i < d.N := by omega
    have HIH := Lib.hid IH
    have HH := Lib.hid h
    have HC := Lib.hid hC
    have HS := Lib.hid hS
    have HBB := Lib.hid hB
    have h4 : d.G ≤ 4 := h.caps.2.2.2.2.1
    have h12 : d.N ≤ 12 := h.caps.2.2.2.1
    have hcl6 := (h.club i hiN).2
    have hlh : lo < hi := Nat.lt_of_le_of_lt h.mp.low.1 h.mp.low.2
    have hls : lo ≤ w.heap.size := Nat.le_trans (Nat.le_of_lt hlh) h.mp.high
    have c4 := h.box.2 4 _ rfl
    have HT9 := Lib.hid ht
    have g1 : ((i : Int) == (t : Int)) = false := by simp; omega
    have HCD : Hid (∀ a, chF d (f + 1) P C i a = sumNN (fun g => if fitB d P C i g = true then chF d f (putP d P i g true) (putC d C i g true) (i + 1) a else 0) d.G) := fun a => rfl
    have HSM : Hid (∀ g a, sumNN (fun g => if fitB d P C i g = true then chF d f (putP d P i g true) (putC d C i g true) (i + 1) a else 0) (g + 1) = sumNN (fun g => if fitB d P C i g = true then chF d f (putP d P i g true) (putC d C i g true) (i + 1) a else 0) g + (if fitB d P C i g = true then chF d f (putP d P i g true) (putC d C i g true) (i + 1) a else 0)) := fun g a => rfl
    have HS0 : Hid (∀ a, sumNN (fun g => if fitB d P C i g = true then chF d f (putP d P i g true) (putC d C i g true) (i + 1) a else 0) 0 = 0) := fun a => rfl
    have HLE : Hid (∀ a k, k ≤ d.G → sumNN (fun g => if fitB d P C i g = true then chF d f (putP d P i g true) (putC d C i g true) (i + 1) a else 0) k ≤ sumNN (fun g => if fitB d P C i g = true then chF d f (putP d P i g true) (putC d C i g true) (i + 1) a else 0) d.G) := fun a k hk => sumNN_mono _ hk
    obtain ⟨ch, hch⟩ : ∃ ch, chF d (f + 1) P C i = ch := ⟨_, rfl⟩
    rw [hch] at HBB HCD ⊢
    obtain ⟨SM, hSM⟩ : ∃ SM : Nat → Nat → Nat, SM = fun a => sumNN (fun g => if fitB d P C i g = true then chF d f (putP d P i g true) (putC d C i g true) (i + 1) a else 0) := ⟨_, rfl⟩
    replace HCD : Hid (∀ a, ch a = SM a d.G) := fun a => by rw [hSM]; exact HCD.out a
    replace HSM : Hid (∀ g a, SM a (g + 1) = SM a g + (if fitB d P C i g = true then chF d f (putP d P i g true) (putC d C i g true) (i + 1) a else 0)) := fun g a => by rw [hSM]; exact HSM.out g a
    replace HS0 : Hid (∀ a, SM a 0 = 0) := fun a => by rw [hSM]; exact HS0.out a
    replace HLE : Hid (∀ a k, k ≤ d.G → SM a k ≤ SM a d.G) := fun a k hk => by rw [hSM]; exact HLE.out a k hk
    clear h hC hS hB hch ht hSM IH
    obtain ⟨G, hGG⟩ : ∃ G, d.G = G := ⟨_, rfl⟩
    have HG := Lib.hid hGG
    rw [hGG] at c4 h4 hsc HS HBB HCD ⊢
    clear hGG
    go_enter Try.func74, Try.ntmps74
    go_wp2
    clear c4 g1
    go_loopw [51] (fun gv wr => ∃ (g : Nat), g ≤ G ∧ gv = .int .i64 g ∧ Hid (SumI wr sb G (fun a => S a + SM a g)) ∧ Hid (DrwAt wr lo hi X d P C) ∧ Hid (Below lo w wr)) (fun gv _ => G - (RowKit.intOf gv).toNat)
    case atStart => exact ⟨0, Nat.zero_le _, rfl, HS.out.congr (fun a _ => by rw [HS0.out]; rfl), HH, Below.refl _ _⟩
    case round =>
      clear HS HH
      obtain ⟨g, hg9, rfl, HS, HD, HBr⟩ := hrel
      by_cases hlt : g < G
      · have hj1 : (g : Int) < (G : Int) := by omega
        have hgG : g < d.G := by rw [HG.out]; exact hlt
        have CF := Lib.hid (l12Fits_spec wr lo hi X d P C i g HD.out hiN hgG)
        have HFF : Hid (fitB d P C i g = true → P g (d.pot i) = false) := fun h => (fit_free h).1
        have HCH := Lib.hid (HSM.out g)
        obtain ⟨ft, hft⟩ : ∃ b, fitB d P C i g = b := ⟨_, rfl⟩
        rw [hft] at CF HFF HCH
        clear hft
        go_wp2_with fail
        refine CF.out.mono ?_
        rintro e w1 ⟨rfl, b⟩
        have HD1 := Lib.hid (HD.out.below b)
        have HS1 := Lib.hid (HS.out.below b)
        have HB1 : Hid (Below lo w w1) := HBr.out.trans (b.mono (Nat.le_trans hls HBr.out.size))
        clear b CF HD HS HBr
        cases ft with
        | false =>
          have HSx : Hid (SumI w1 sb G (fun a => S a + SM a (g + 1))) := HS1.out.congr fun a _ => by rw [HCH.out a]; simp
          clear HCH HFF
          go_wp2
          go_roundw
          case rel => exact ⟨g + 1, by omega, by go_num, HSx, HD1, HB1⟩
          case measure => simp [RowKit.intOf]; omega
        | true =>
          have hcb := HC.out g _ hgG hcl6
          have CP := Lib.hid (l12Put_spec w1 lo hi X d P C i g true HD1.out hiN hgG (by omega))
          have HPB : Hid (putP d (putP d P i g true) i g false = P) := putP_back (HFF.out rfl)
          have HCB : Hid (putC d (putC d C i g true) i g false = C) := putC_back
          have HCN := Lib.hid (HC.out.put hgG hcl6)
          clear HFF
          go_wp2_with fail
          refine CP.out.mono ?_
          rintro e w2 ⟨rfl, hd2, ht2⟩
          have HD2 := Lib.hid hd2
          have HS2 := Lib.hid (HS1.out.touch ht2 hsb)
          have HB2 : Hid (Below lo w w2) := HB1.out.trans (ht2.below (Nat.le_refl _) (Nat.le_trans hls HB1.out.size))
          clear hd2 ht2 CP HD1 HS1 HB1
          have CR := Lib.hid (HIH.out (i + 1) t _ _ _ w2 (by have := HT9.out; omega) (by omega) HD2.out HCN.out (by rw [HG.out]; exact HS2.out) (fun a ha => by
            have h1 := HBB.out a (by rw [← HG.out]; exact ha)
            have h2 := HLE.out a (g + 1) hgG
            rw [HCH.out a] at h2
            simp only [if_true] at h2
            rw [HCD.out a, ← HG.out] at h1
            show S a + SM a g + _ ≤ _
            omega))
          have hcn := HCN.out g _ hgG hcl6
          have CP2 := Lib.hid (fun wa ha => l12Put_spec wa lo hi X d (putP d P i g true) (putC d C i g true) i g false ha hiN hgG (by omega))
          rw [HPB.out, HCB.out] at CP2
          rw [HG.out] at CR
          clear HPB HCB hcn
          have HCX : Hid (∀ a, SM a (g + 1) = SM a g + chF d f (putP d P i g true) (putC d C i g true) (i + 1) a) := fun a => by rw [HCH.out a]; simp
          clear HCH
          generalize chF d f (putP d P i g true) (putC d C i g true) (i + 1) = cc at *
          go_wp2_with fail
          refine CR.out.mono ?_
          rintro e w4 ⟨rfl, hd3, hs3, hb3⟩
          have HD4 := Lib.hid hd3
          have HS4 : Hid (SumI w4 sb G (fun a => S a + SM a (g + 1))) := hs3.congr fun a _ => by rw [HCX.out a, Nat.add_assoc]
          have HB4 : Hid (Below lo w w4) := HB2.out.trans hb3
          clear hd3 hs3 hb3 CR HD2 HS2 HB2
          have CPx := Lib.hid (CP2.out _ HD4.out)
          go_wp2_with fail
          refine CPx.out.mono ?_
          rintro e w5 ⟨rfl, hd5, ht5⟩
          have HD5 := Lib.hid hd5
          have HS5 := Lib.hid (HS4.out.touch ht5 hsb)
          have HB5 : Hid (Below lo w w5) := HB4.out.trans (ht5.below (Nat.le_refl _) (Nat.le_trans hls HB4.out.size))
          clear hd5 ht5 CPx HD4 HS4 HB4
          go_wp2
          go_roundw
          case rel => exact ⟨g + 1, by omega, by go_num, HS5, HD5, HB5⟩
          case measure => simp [RowKit.intOf]; omega
      obtain rfl : G = g := by omega
      go_wp2
      refine bodyPost_end (results_none rfl _ _ _) rfl ?_
      exact ⟨rfl, HD.out, HS.out.congr fun a ha => by rw [HCD.out a], HBr.out⟩
end Go.Proofs.Ytmhkkdnopcdibaa
set_option linter.unusedVariables false
namespace Go.Proofs.Ytmhkkdnopcdibaa
open Go.RowKit

def chL (F : Nat → TeamD) (T : List (List Int)) (gr most : Int) (x : Int) : List Int :=
  if 0 ≤ placeI (fun i => ((teamAt T i : Nat) : Int)) x T.flatten.length 0 then (List.range gr.toNat).map fun g => ((chF (drwD F T gr most) (placeI (fun i => ((teamAt T i : Nat) : Int)) x T.flatten.length 0).toNat noP noC 0 g : Nat) : Int) else []
theorem chF_eq {d d' : DrwD} (h : DrwEq d d') : chF d = chF d' := by
  funext f
  induction f with
  | zero =>
    funext P C i a
    show (if fitB d P C i a = true then cntF d (d.N - (i + 1)) (Go.Proofs.Ytmhkkdnopcdibaa.putP d P i a true) (Go.Proofs.Ytmhkkdnopcdibaa.putC d C i a true) (i + 1) else 0) = _
    rw [h.N, h.fit, h.cnt, h.putP, h.putC]
    rfl
  | succ f IH =>
    funext P C i a
    show sumNN (fun g => if fitB d P C i g = true then chF d f (Go.Proofs.Ytmhkkdnopcdibaa.putP d P i g true) (Go.Proofs.Ytmhkkdnopcdibaa.putC d C i g true) (i + 1) a else 0) d.G = _
    rw [h.G, h.fit, h.putP, h.putC, IH]
    rfl
theorem placeI_lt (g : Nat → Int) (x : Int) : ∀ r k, placeI g x r k < (k : Int) + r
  | 0, k => by show (-1 : Int) < _; omega
  | r + 1, k => by
    show (if _ then _ else _) < _
    split
    · omega
    · have := placeI_lt g x r (k + 1); omega
theorem ch_small (d : DrwD) (h4 : d.G ≤ 4) (h12 : d.N ≤ 12) (f : Nat) (hf : f ≤ 12) (P : Nat → Nat → Bool) (C : Nat → Nat → Int) (i g : Nat) : chF d f P C i g ≤ 4611686018427387904 := by
  refine Nat.le_trans (chF_le d h4 h12 f P C i g) ?_
  refine Nat.le_trans (Nat.mul_le_mul_right _ (Nat.pow_le_pow_right (by decide) hf)) ?_
  decide
set_option maxRecDepth 100000 in
set_option maxHeartbeats 8000000 in
theorem chancesOf_spec (vf : Value) (nf : Nat) (F : Nat → TeamD) (vp : Value) (gr most : Int) (T : List (List Int)) (x : Int) (R : List Int) (w : World) (hR : potsP nf F T gr most → R = chL F T gr most x) (hR0 : ¬ potsP nf F T gr most → R = []) (hf : TeamRow w vf nf F) (hs : ∀ i, (F i).nm.size ≤ maxLen) (h : RdA tIntSS w [vp] T) (hw : tIntSS.wt T ≤ 1048576) :
    Calls Try.prog 40 #[vf, .agg #[vp, .int .i64 gr, .int .i64 most], .int .i64 x] w (IntsL w R) := by
  obtain ⟨pa, pc, rfl, hpn⟩ := pots_form h
  obtain ⟨r1, hr1⟩ := boolEx (potsP nf F T gr most)
  obtain ⟨U, hU⟩ : ∃ U, w.alloc (.cells #[.slice pa (List.length (α := List Int) T) pc, .int .i64 gr, .int .i64 most] 26) = U := ⟨_, rfl⟩
  have bU : Below w.heap.size w U := by rw [← hU]; exact (Below.refl _ _).alloc (Nat.le_refl _) _
  have HS : Hid (PotsAt U w.heap.size pa (List.length (α := List Int) T) pc gr most T) := by rw [← hU]; exact PotsAt.made h
  have HB := Lib.hid bU
  have HF : Hid (TeamRow U vf nf F) := hf.below bU (Nat.le_refl _)
  have CF := Lib.hid (potsOk_spec vf nf F (.slice pa (List.length (α := List Int) T) pc) gr most T r1 U hr1 HF.out hs HS.out.2 hw)
  have CN : Hid (∀ wa, TeamRow wa vf nf F → RdA tIntSS wa [.slice pa (List.length (α := List Int) T) pc] T → potsP nf F T gr most → Calls Try.prog 65 #[vf, .agg #[.slice pa (List.length (α := List Int) T) pc, .int .i64 gr, .int .i64 most]] wa (NewM wa (drwD F T gr most))) := fun wa h1 h2 h3 => l12New_spec _ _ _ _ _ _ _ wa h1 h2 hw h3
  have HR1 := Lib.hid hr1
  have HRR := Lib.hid hR
  have HR0 := Lib.hid hR0
  obtain ⟨np, hnp⟩ : ∃ np, List.length (α := List Int) T = np := ⟨_, rfl⟩
  rw [hnp] at hU HS CF CN ⊢
  have c0 := HS.out.1.2 0 _ rfl
  have c1 := HS.out.1.2 1 _ rfl
  have c2 := HS.out.1.2 2 _ rfl
  clear h hf hR hR0 hr1 bU hw hs hnp hpn
  go_enter Try.func40, Try.ntmps40
  go_wp2_with fail
  clear hU c0 c1 c2
  refine CF.out.mono ?_
  rintro e w1 ⟨rfl, b⟩
  have HS1 := Lib.hid (HS.out.below b)
  have HF1 := Lib.hid (HF.out.below b (Nat.le_refl _))
  have HB1 := Lib.hid (HB.out.trans (b.mono HB.out.size))
  clear b HS HB CF HF
  have c0 := HS1.out.1.2 0 _ rfl
  have c1 := HS1.out.1.2 1 _ rfl
  have c2 := HS1.out.1.2 2 _ rfl
  cases r1 with
  | false =>
    obtain rfl : R = [] := HR0.out fun h => by have := HR1.out.2 h; cases this
    go_wp2
    go_ret
    exact ⟨_, rfl, World.ownsRow_nil _ _ _ _, HB1.out⟩
  | true =>
  have HP := Lib.hid (HR1.out.1 rfl)
  have HRE := Lib.hid (HRR.out HP.out)
  have CN1 := Lib.hid (CN.out w1 HF1.out HS1.out.2 HP.out)
  obtain ⟨G, hGr⟩ : ∃ G : Nat, gr = (G : Int) := ⟨gr.toNat, by have := HP.out.2.1; omega⟩
  have HGR := Lib.hid hGr
  clear HR1 HRR HR0 CN hGr
  go_wp2_with fail
  clear c0 c1 c2
  refine CN1.out.mono ?_
  rintro e w2 ⟨lo, hi, X, d, rfl, hq, hdr, b, hlo⟩
  have hGr := HGR.out
  clear HGR
  have HB2 := Lib.hid (HB1.out.trans (b.mono HB1.out.size))
  have HS2 := Lib.hid (HS1.out.below b)
  have HDr := Lib.hid hdr
  have HLO : Hid (w.heap.size ≤ lo) := Nat.le_trans HB1.out.size hlo
  have h4 : d.G ≤ 4 := hdr.caps.2.2.2.2.1
  have h12 : d.N ≤ 12 := hdr.caps.2.2.2.1
  have hhi : hi ≤ w2.heap.size := hdr.mp.high
  have hlh : lo < hi := Nat.lt_of_le_of_lt hdr.mp.low.1 hdr.mp.low.2
  have hdG : d.G = G := by have h9 := hq.G; have h8 : (drwD F T gr most).G = gr.toNat := rfl; omega
  have hN0 : 0 < T.flatten.length := flat_some (by have := HP.out.2.2.2.1; omega) fun i hi => by have := (HP.out.2.2.2.2.1 i hi).1; omega
  have hNT : d.N = T.flatten.length := hq.N
  have hteam : d.team = teamAt T := hq.team
  have hrow : IntRow w2 (.slice (some ⟨d.tb, d.to, none⟩) d.N d.tc) d.N (fun i => ((teamAt T i : Nat) : Int)) := .inr ⟨d.tb, d.to, d.tc, rfl, by omega, by omega, fun i hi => by have := (hdr.team i hi).1; rw [hteam] at this; exact this, hdr.caps.2.1⟩
  have CP := Lib.hid (placeOf_spec _ _ _ x w2 hrow)
  rw [hNT] at CP
  have HPL := Lib.hid (placeI_lt (fun i => ((teamAt T i : Nat) : Int)) x T.flatten.length 0)
  have HRx : Hid (R = if 0 ≤ placeI (fun i => ((teamAt T i : Nat) : Int)) x T.flatten.length 0 then (List.range G).map fun g => ((chF d (placeI (fun i => ((teamAt T i : Nat) : Int)) x T.flatten.length 0).toNat noP noC 0 g : Nat) : Int) else []) := by
    show _ = _
    rw [HRE.out]
    unfold chL
    rw [← chF_eq hq, hGr]
    rfl
  have c2 := hdr.box.2 2 _ rfl
  have c1 := HS2.out.1.2 1 _ rfl
  have c0 := HS2.out.1.2 0 _ rfl
  have c3 := HS2.out.1.2 2 _ rfl
  rw [hNT] at c2
  rw [hGr] at c1
  obtain ⟨N, hNd⟩ : ∃ N, T.flatten.length = N := ⟨_, rfl⟩
  rw [hNd] at CP HPL HRx hNT c2
  generalize placeI (fun i => ((teamAt T i : Nat) : Int)) x N 0 = at9 at *
  clear hdr hq b hlo CN1 HRE hrow hteam hNd hN0
  subst hGr
  go_wp2_with fail
  clear c2
  refine CP.out.mono ?_
  rintro e wx ⟨rfl, rfl⟩
  by_cases hat : 0 ≤ at9
  case neg =>
    have g1 : decide (at9 < 0) = true := decide_eq_true (by omega)
    obtain rfl : R = [] := by rw [HRx.out, if_neg hat]
    go_wp2
    go_ret
    exact ⟨_, rfl, World.ownsRow_nil _ _ _ _, HB2.out⟩
  obtain ⟨f, rfl⟩ : ∃ f : Nat, at9 = f := ⟨at9.toNat, by omega⟩
  have g1 : decide ((f : Int) < 0) = false := decide_eq_false (by omega)
  have HRy : Hid (R = (List.range G).map fun g => ((chF d f noP noC 0 g : Nat) : Int)) := by show _ = _; rw [HRx.out, if_pos hat, Int.toNat_natCast]
  have hfN : 0 + f < d.N := by have := HPL.out; omega
  obtain ⟨W, hW⟩ : ∃ W, w2.alloc (.cells (madeCells #[.int .i64 0] G) 3) = W := ⟨_, rfl⟩
  have hG9 : G ≤ 4 := by omega
  have mk : ∀ w, (Instr.makeSlice 31 (.int .i64 (G : Int)) (.int .i64 (G : Int))).run Try.prog w = .ok (.slice (some ⟨w.heap.size, 0, none⟩) G G) (w.alloc (.cells (madeCells #[.int .i64 0] G) 3)) := fun w => run_make_row' _ _ _ 8 Try.underlying31 Try.infoI rfl .i64 .i64 G (by omega) (by omega) w
  have bW : Below w2.heap.size w2 W := by rw [← hW]; exact (Below.refl _ _).alloc (Nat.le_refl _) _
  have HSI : Hid (SumI W w2.heap.size d.G (fun _ => 0)) := by rw [← hW, hdG]; exact SumI.of (World.rowIs_made w2 (.int .i64 0) G 3)
  have CH := Lib.hid (l12Chances_spec lo hi X w2.heap.size G d hhi (by omega) f 0 f noP noC (fun _ => 0) W (by omega) hfN (HDr.out.below bW) (clubB.none d) HSI.out (fun g _ => by
    rw [Nat.zero_add]
    exact ch_small d h4 h12 f (by omega) noP noC 0 g))
  rw [hdG] at CH
  have HBW : Hid (Below w.heap.size w W) := HB2.out.trans (bW.mono HB2.out.size)
  have hws : w.heap.size ≤ w2.heap.size := HB2.out.size
  clear bW HSI HRx CP HPL
  go_wp2_with fail
  clear c0 c1 c3 mk
  refine CH.out.mono ?_
  rintro e w5 ⟨rfl, _, hs5, hb5⟩
  have HO5 := Lib.hid (hs5.owns hG9 hws)
  have HB5 : Hid (Below w.heap.size w w5) := HBW.out.trans (hb5.mono HLO.out)
  clear hs5 hb5 CH hW
  go_wp2
  go_ret
  have hl : ((List.range G).map fun g => ((chF d f noP noC 0 g : Nat) : Int)).length = G := by simp
  rw [HRy.out]
  refine ⟨_, rfl, ?_, HB5.out⟩
  rw [hl, List.map_map]
  have h9 := HO5.out
  simp only [Nat.zero_add] at h9
  exact h9
end Go.Proofs.Ytmhkkdnopcdibaa
set_option linter.unusedVariables false
namespace Go.Proofs.Ytmhkkdnopcdibaa
open Go.RowKit Go.ChangeShapes Go.WideShapes

def TeamFit (t : TeamD) : Prop := t.nm.size ≤ maxLen ∧ (Lit.int .i64 t.club).wf = true ∧ (Lit.int .i64 t.seed).wf = true
instance : Inhabited TeamD := ⟨⟨ByteArray.empty, 0, 0⟩⟩
section
variable {H : Type} {enc : TypeId × Value → H} {P : Program} {w : World} {base : Nat} {spare : Nat → Bool} {held : Bool}
theorem open_teams {t e : TypeId} {f0 f1 f2 : Field} {fuel : Nat} {cs : List Value} {x : DataW H × List MemPlace} (ht : P.underlying t = some (.slice e)) (he : P.underlying e = some (.struct #[f0, f1, f2]))
    (ce : P.cellsOf e = 3) (o0 : f0.offset = 0) (o1 : f1.offset = 1) (o2 : f2.offset = 2) (c0 : P.cellsOf f0.type = 1) (c1 : P.cellsOf f1.type = 1) (c2 : P.cellsOf f2.type = 1)
    (u0 : P.underlying f0.type = some .string) (u1 : P.underlying f1.type = some (.int .i64)) (u2 : P.underlying f2.type = some (.int .i64))
    (h : DataW.trod enc P w base spare held fuel t cs = some x) :
    cs = [.slice none 0 0] ∨ ∃ (a : Addr) (len cap : Nat) (g : Nat → TeamD), cs = [.slice (some a) len cap] ∧ len ≤ cap ∧ cap ≤ maxLen ∧
      ∀ i, i < len → (w.cell? (a.add (i * 3)) = some (.string (g i).nm) ∧ w.cell? (a.add (i * 3 + 1)) = some (.int .i64 (g i).club) ∧ w.cell? (a.add (i * 3 + 2)) = some (.int .i64 (g i).seed)) ∧ TeamFit (g i) := by
  rcases Go.Deep.open_slice ht h with ⟨h0, _⟩ | ⟨a, len, cap, m, n, D, Pl, rfl, hb, hl, hm, hmm, rfl, hx⟩
  · exact .inl h0
  right
  have hlm : len ≤ m := by rw [hmm]; split <;> omega
  have each : ∀ i, i < len → ∃ q : TeamD, (w.cell? (a.add (i * 3)) = some (.string q.nm) ∧ w.cell? (a.add (i * 3 + 1)) = some (.int .i64 q.club) ∧ w.cell? (a.add (i * 3 + 2)) = some (.int .i64 q.seed)) ∧ TeamFit q := by
    intro i hi
    obtain ⟨cs', h1, h2⟩ := hx i (by omega)
    rw [ce] at h1
    obtain ⟨_, hlen, hcell⟩ := World.cells?_some h1
    obtain ⟨xs, k, hk, hxy, _, hxl, hf⟩ := DataW.trod_struct he h2
    match xs, hxl, cs', hlen with
    | [y0, y1, y2], _, [v0, v1, v2], _ =>
      have g0 := hf 0 f0 rfl
      have g1 := hf 1 f1 rfl
      have g2 := hf 2 f2 rfl
      simp [o0, o1, o2, c0, c1, c2] at g0 g1 g2
      obtain ⟨s, hs, _, hw⟩ := DataW.trod_string u0 g0
      obtain ⟨z1, hz1, _, k1⟩ := DataW.trod_int u1 g1
      obtain ⟨z2, hz2, _, k2⟩ := DataW.trod_int u2 g2
      have e0 := hcell 0 (by omega)
      have e1 := hcell 1 (by omega)
      have e2 := hcell 2 (by omega)
      rw [Go.Deep.add_add] at e0 e1 e2
      simp only [List.cons.injEq, and_true] at hs hz1 hz2
      subst hs; subst hz1; subst hz2
      exact ⟨⟨s, z1, z2⟩, ⟨by simpa using e0, by simpa using e1, by simpa using e2⟩, hw, k1, k2⟩
  obtain ⟨g, hg⟩ := Go.Deep.choose_lt each
  exact ⟨a, len, cap, g, rfl, hl, hm, hg⟩
end
theorem teamRow_of_open {w : World} {v : Value} {a : Option Addr} {n c : Nat} (hv : v = .slice a n c)
    (h : ([v] : List Value) = [.slice none 0 0] ∨ ∃ (a : Addr) (len cap : Nat) (g : Nat → TeamD), [v] = [.slice (some a) len cap] ∧ len ≤ cap ∧ cap ≤ maxLen ∧
      ∀ i, i < len → (w.cell? (a.add (i * 3)) = some (.string (g i).nm) ∧ w.cell? (a.add (i * 3 + 1)) = some (.int .i64 (g i).club) ∧ w.cell? (a.add (i * 3 + 2)) = some (.int .i64 (g i).seed)) ∧ TeamFit (g i)) :
    ∃ g, TeamRow w v n g ∧ (∀ i, (g i).nm.size ≤ maxLen) ∧ ∀ i, TeamFit (g i) := by
  subst hv
  have hz : TeamFit default := ⟨Nat.zero_le _, WalkArith.wf_i64 (by decide), WalkArith.wf_i64 (by decide)⟩
  rcases h with h | ⟨x, len, cap, g, h, hl, hm, hg⟩
  · simp only [List.cons.injEq, Value.slice.injEq, and_true] at h
    obtain ⟨rfl, rfl, rfl⟩ := h
    exact ⟨fun _ => default, .inl ⟨_, _, rfl, rfl⟩, fun _ => hz.1, fun _ => hz⟩
  · simp only [List.cons.injEq, Value.slice.injEq, and_true] at h
    obtain ⟨rfl, rfl, rfl⟩ := h
    have hfit : ∀ i, TeamFit (if i < n then g i else default) := fun i => by
      by_cases hi : i < n
      · simpa [hi] using (hg i hi).2
      · simpa [hi] using hz
    refine ⟨fun i => if i < n then g i else default, ?_, fun i => (hfit i).1, hfit⟩
    by_cases h0 : n = 0
    · subst h0; exact .inl ⟨_, _, rfl, rfl⟩
    · obtain ⟨b, off, spot⟩ := x
      have hspot : spot = none := by simpa [Addr.add] using World.cell?_spot (hg 0 (by omega)).1.1
      subst hspot
      refine .inr ⟨b, off, c, rfl, by omega, by unfold maxLen at hm; omega, fun i hi => ?_, hl⟩
      have hadd : ∀ j, (⟨b, off, none⟩ : Addr).add j = ⟨b, off + j, none⟩ := fun j => by unfold Addr.add; split <;> simp_all
      have := (hg i hi).1
      simp only [hadd] at this
      simpa [hi, Nat.add_assoc] using this
end Go.Proofs.Ytmhkkdnopcdibaa
set_option linter.unusedVariables false
namespace Go.Proofs.Ytmhkkdnopcdibaa
open Go.RowKit

def tTeam : Ty := tTwo tStr (tTwo tInt tInt)
def tTeamS : Ty := tSl 86 tTeam
theorem opens_Team : Opens Try.prog 81 tTeam := opens_struct Try.underlying81 (by kernel_rfl) ⟨rfl, _, _, rfl, (opens_str Try.underlying9 (by kernel_rfl)), ⟨rfl, _, _, rfl, (opens_int Try.underlying3 (by kernel_rfl)), ⟨rfl, (opens_int Try.underlying3 (by kernel_rfl))⟩⟩⟩
theorem opens_TeamS : Opens Try.prog 40 tTeamS := opens_sl Try.underlying40 (by kernel_rfl) opens_Team
def ofTeam (x : tTeam.D) : TeamD := ⟨x.1, x.2.1, x.2.2⟩
def atTeam (d : List tTeam.D) (i : Nat) : TeamD := ((d[i]?).map ofTeam).getD default
theorem flat_Team : FlatT tTeam fun x => (ofTeam x).cells := (flat_two flat_str (flat_two flat_int flat_int))
theorem cells_Team {d : List tTeam.D} {i : Nat} (hi : i < d.length) : cellsAt (fun x => (ofTeam x).cells) d i = (atTeam d i).cells := by
  refine (cellsAt_lt (List.getElem?_eq_getElem hi)).trans ?_
  unfold atTeam; rw [List.getElem?_eq_getElem hi]; rfl
theorem rd_TeamS {w : World} {v : Value} {d : List tTeam.D} : RdA tTeamS w [v] d ↔ TeamRow w v d.length (atTeam d) := by
  have e := fun i (hi : i < d.length) => cells_Team hi
  exact flat_Team.rdA.trans ⟨fun h => RecRow.teams (RecRow.congr h e), fun h => RecRow.congr (TeamRow.rec h) fun i hi => (e i hi).symm⟩
theorem atTeam_size {d : List tTeam.D} (h : tTeamS.fit d) (i : Nat) : (atTeam d i).nm.size ≤ maxLen := by
  unfold atTeam
  cases hx : d[i]? with
  | none => simp [default, maxLen]
  | some x => exact (h x (List.mem_iff_getElem?.2 ⟨i, hx⟩)).1
theorem mks_TeamS (d : List tTeam.D) : tTeamS.mks d = 3 * d.length := sum_const (f := tTeam.mks) (fun _ => rfl) d
theorem mkl_TeamS (d : List tTeam.D) (k : Int) : List.length (α := tTeam.D) (tTeamS.mkd k d) = d.length := mkList_len _ _ _ _
theorem tot_take (d : List tTeam.D) : ∀ k, k ≤ d.length → totT (atTeam d) k = ((d.take k).map tTeam.wt).sum
  | 0, _ => rfl
  | k + 1, h => by
    have hk : k < d.length := by omega
    rw [List.take_add_one, List.getElem?_eq_getElem hk, List.map_append, List.sum_append]
    unfold totT
    rw [tot_take d k (by omega)]
    have e : atTeam d k = ofTeam d[k] := by unfold atTeam; rw [List.getElem?_eq_getElem hk]; rfl
    rw [e]
    show _ + (d[k]).1.size = _ + ((d[k]).1.size + (0 + 0) + 0)
    omega
theorem wt_TeamS (d : List tTeam.D) : tTeamS.wt d = d.length + totT (atTeam d) d.length := by
  rw [tot_take d _ (Nat.le_refl _), List.take_length]; rfl
theorem own_TeamS {w : World} {lo hi : Nat} {v : Value} {d : List tTeam.D} {xs : List Value} (h : w.ownsRow lo 86 3 v d.length xs) (hr : TeamRow w v d.length (atTeam d)) (h1 : ∀ q, v.ownBlock = some q → q < hi) (hh : hi ≤ w.heap.size) : OwN tTeamS w lo hi [v] d :=
  flat_Team.made h (rd_TeamS.2 hr) h1 hh
theorem y_sz_TeamS (v : Value) (d : List tTeam.D) (left : Int) (w : World) (hl0 : 0 ≤ left) (hl : left ≤ 1048576) (h : RdA tTeamS w [v] d) (hf : tTeamS.fit d) : Calls Try.prog 22 #[v, .int .i64 left] w (SzT tTeamS d left w) := by
  obtain ⟨l, rfl⟩ : ∃ l : Nat, left = l := ⟨left.toNat, by omega⟩
  refine (szTeamS_any v d.length l (atTeam d) w (rd_TeamS.1 h) (fun i => by have := atTeam_size hf i; unfold maxLen at this; omega) (by omega)).mono fun e w' ⟨⟨r, he, hr⟩, hb⟩ => ⟨⟨r, he, ?_⟩, hb⟩
  rw [wt_TeamS]
  rcases hr with hr | ⟨h1, h2⟩
  · exact .inl hr
  · exact .inr ⟨h1, by omega⟩
theorem y_to_TeamS (v : Value) (d : List tTeam.D) (w : World) (h : RdA tTeamS w [v] d) (hw : tTeamS.wt d ≤ 1048576) : Calls Try.prog 25 #[v] w (MadeT tTeamS d w) :=
  (toTeamS_any v d.length (atTeam d) w (rd_TeamS.1 h) (by rw [wt_TeamS] at hw; omega)).mono fun e w' ⟨v', he, hr, ⟨xs, ho⟩, hb⟩ => ⟨v', he, flat_Team.made ho (rd_TeamS.2 hr) (fun q hq => (ho.lt q hq).2) (Nat.le_refl _), hb⟩
theorem y_eq_TeamS (v v' : Value) (d : List tTeam.D) (w : World) (h : RdA tTeamS w [v] d) (h' : RdA tTeamS w [v'] d) : Calls Try.prog 27 #[v, v'] w fun e w' => e = .returned (.bool true) ∧ Below w.heap.size w w' :=
  eqTeamS_same v v' d.length (atTeam d) w (rd_TeamS.1 h) (rd_TeamS.1 h')
def teamMk (k : Int) (i : Nat) : TeamD := ⟨mkT (k + 3 * (i : Int)).toNat, k + 3 * (i : Int) + 1, k + 3 * (i : Int) + 1 + 1⟩
theorem mk_TeamS (d : List tTeam.D) (k : Int) (i : Nat) (hi : i < d.length) : atTeam (tTeamS.mkd k d) i = teamMk k i := by
  have h := mkList_get (mks := tTeam.mks) (mkd := tTeam.mkd) (m := 3) (fun _ => rfl) d k i
  have h2 : (mkList tTeam.mks tTeam.mkd k d)[i]? = some (tTeam.mkd (k + ((3 : Nat) : Int) * i) d[i]) := by
    rw [h, List.getElem?_eq_getElem hi]; rfl
  unfold atTeam
  refine (congrArg (fun o => (Option.map ofTeam o).getD default) h2).trans ?_
  rfl
set_option maxRecDepth 100000 in
set_option maxHeartbeats 2000000 in
theorem y_mk_TeamS (v : Value) (d : List tTeam.D) (k : Int) (lo hi : Nat) (w : World) (h : OwN tTeamS w lo hi [v] d) (h0 : 0 < k) (hk : k + tTeamS.mks d ≤ 1000000000000) : Calls Try.prog 34 #[v, .int .i64 k] w (MarkT tTeamS [v] d k lo hi w) := by
  obtain ⟨⟨xs, hown, _⟩, hin⟩ := flat_Team.owned h
  have hhi := h.hi_le
  have hm := mks_TeamS d
  have hm2 : k + 3 * (d.length : Int) ≤ 1000000000000 := by omega
  have HFin : Hid (∀ w', TeamRow w' v d.length (teamMk k) → RdN tTeamS w' lo hi [v] (tTeamS.mkd k d)) := fun w' hr => by
    have h1 : RecRow 3 w' v d.length (fun i => (atTeam (tTeamS.mkd k d) i).cells) := RecRow.congr (TeamRow.rec hr) (fun i hi => by rw [mk_TeamS d k i hi])
    rw [← mkl_TeamS d k] at h1
    exact flat_Team.reads (flat_Team.row (rd_TeamS.2 h1.teams)) fun _ q hq => hin q hq
  have HM : Hid (tTeamS.mks d = 3 * d.length) := hm
  unfold MarkT
  rw [hm]
  clear hm hk h
  generalize tTeamS.mkd k d = d2 at *
  obtain ⟨n, hn⟩ : ∃ n, d.length = n := ⟨_, rfl⟩
  rw [hn] at hown hm2 HFin ⊢
  clear hn HM
  obtain ⟨a, cap, rfl, hv⟩ : ∃ a cap, v = .slice a n cap ∧ (0 < n → ∃ g, a = some ⟨g, 0, none⟩ ∧ lo ≤ g ∧ g < hi) := by
    rcases hown.2 with ⟨rfl, rfl⟩ | ⟨g, cap, cur, rfl, hg, _⟩
    · exact ⟨_, _, rfl, fun h => absurd h (by omega)⟩
    · exact ⟨_, _, rfl, fun _ => ⟨g, rfl, hg, (hin g rfl).2⟩⟩
  have HV := Lib.hid hv
  clear hv hin
  go_enter Try.func34, Try.ntmps34
  go_wp2
  go_loopw [1, 5] (fun kv i wr => ∃ (j : Nat) (ys : List Value), j ≤ n ∧ i = .int .i64 j ∧ kv = .int .i64 (k + 3 * (j : Int)) ∧ wr.ownsRow lo 86 3 (.slice a n cap) n ys ∧ Hid (RecCells 3 j ys fun i => (teamMk k i).cells) ∧ Hid (Touch lo hi w wr))
    (fun _ i _ => n - (RowKit.intOf i).toNat)
  case atStart => exact ⟨0, xs, Nat.zero_le _, rfl, by go_num, hown, RecCells.nil, Touch.refl _ _ _⟩
  case round =>
    obtain ⟨j, ys, hj, rfl, rfl, hown', hys, ht⟩ := hrel
    clear hown
    by_cases hlt : j < n
    · obtain ⟨g, rfl, hg, hg2⟩ := HV.out (by omega)
      clear HV
      obtain ⟨K, hK⟩ : ∃ K : Nat, k + 3 * (j : Int) = (K : Int) := ⟨(k + 3 * (j : Int)).toNat, by omega⟩
      have CM := Lib.hid (fun w => markText_any K w (by omega) (by omega))
      have HKK : Hid ((teamMk k j).cells = [.string (mkT K), .int .i64 ((K : Int) + 1), .int .i64 ((K : Int) + 1 + 1)]) := by
        show _ = _
        unfold teamMk TeamD.cells
        rw [hK, Int.toNat_natCast]
      have HKn : Hid ((K : Int) + 1 + 1 + 1 = k + 3 * ((j + 1 : Nat) : Int)) := (by show _ = _; omega)
      have hKb : (K : Int) + 3 ≤ 1000000000001 := by omega
      rw [hK]
      clear hK
      have HO := Lib.hid hown'
      clear hown'
      go_wp2_with fail
      refine (CM.out _).mono ?_
      rintro e w1 ⟨rfl, hb1⟩
      have hown1 := owns_below HO.out hb1 (Nat.le_refl _)
      obtain ⟨⟨u0, e0⟩, ⟨u1, e1⟩, ⟨u2, e2⟩⟩ := owns_cells3 hown1 j hlt
      have f0 := hown1.frozenAt (j * 3)
      have f1 := hown1.frozenAt (j * 3 + 1)
      have f2 := hown1.frozenAt (j * 3 + 2)
      have HO1 := Lib.hid hown1
      have HB1 := Lib.hid hb1
      clear hown1 hb1 CM
      go_wp2
      go_roundw
      case rel =>
        refine ⟨j + 1, _, by omega, by go_num, ?_, owns_set3 HO1.out j _ _ _, hys.out.sets (cs := [.string (mkT K), .int .i64 ((K : Int) + 1), .int .i64 ((K : Int) + 1 + 1)]) HO1.out.1 hlt HKK.out rfl (fun _ _ => Nat.le_refl _), ?_⟩
        · rw [← HKn.out]
        · exact (((ht.out.trans (Touch.of_below HB1.out)).setCell _ _ hg hg2).setCell _ _ hg hg2).setCell _ _ hg hg2
      case measure => simp [RowKit.intOf]; omega
    · obtain rfl : j = n := by omega
      have HR := Lib.hid (HFin.out _ (RecRow.teams (RecRow.of_owns hown' (by omega) hys.out (fun _ _ => Nat.le_refl _))))
      clear hown' hys HFin
      go_wp2
      go_ret
      exact ⟨by first | rfl | (congr 2 <;> omega), HR.out, ht.out⟩
theorem yb_mk_TeamS (v : Value) (d : List tTeam.D) (k : Int) (lo : Nat) (bs : List Nat) (w : World) (h : tTeamS.Ow w lo [v] d bs) (hnd : bs.Nodup) (h0 : 0 < k) (hk : k + tTeamS.mks d ≤ 1000000000000) : Calls Try.prog 34 #[v, .int .i64 k] w (MarkC tTeamS [v] (tTeamS.mkd k d) (tTeamS.mks d) k bs w) :=
  flat_mark flat_Team h fun lo hi ho => y_mk_TeamS v d k lo hi w ho h0 hk
end Go.Proofs.Ytmhkkdnopcdibaa
set_option linter.unusedVariables false
namespace Go.Proofs.Ytmhkkdnopcdibaa
open Go.RowKit

theorem pots_rd {w : World} {v : Value} {x y : Int} {d : tPots.D} (h : RdA tPots w [v, .int .i64 x, .int .i64 y] d) : RdA tIntSS w [v] d.1 := (rd_split h).1
theorem pots_wt {d : tPots.D} (h : tPots.wt d ≤ 1048576) : tIntSS.wt d.1 ≤ 1048576 := by
  have e : tPots.wt d = tIntSS.wt d.1 + (tInt.wt d.2.1 + tInt.wt d.2.2) := rfl
  omega
theorem mks_intsD (T : List Int) : tIntS.mks T = 1 * List.length (α := Int) T := sum_const (f := tInt.mks) (fun _ => rfl) _
theorem num_ex (p : Prop) (x y : Int) : ∃ R : Int, (p → R = x) ∧ (¬ p → R = y) := by
  by_cases h : p
  · exact ⟨x, fun _ => rfl, fun h2 => absurd h h2⟩
  · exact ⟨y, fun h2 => absurd h2 h, fun _ => rfl⟩
theorem NthM.owN {w w' : World} {R : Option (List Int)} {e : Ending} (h : NthM w R e w') : ∃ v, e = .returned (.tuple #[v, .bool R.isSome]) ∧ OwN tIntS w' w.heap.size w'.heap.size [v] (R.getD []) ∧ Below w.heap.size w w' := by
  cases R with
  | none =>
    obtain ⟨rfl, b⟩ := h
    have ho : w'.ownsRow w.heap.size 3 1 (.slice none 0 0) ([] : List Int).length (([] : List Int).map (Value.int .i64)) := World.ownsRow_nil _ _ _ _
    exact ⟨_, rfl, own_ints ho (fun q hq => (ho.lt q hq).2) (Nat.le_refl _), b⟩
  | some L =>
    obtain ⟨v, rfl, ho, b⟩ := h
    exact ⟨v, rfl, own_ints ho (fun q hq => (ho.lt q hq).2) (Nat.le_refl _), b⟩
theorem IntsL.owND {w w' : World} {L : List Int} {e : Ending} (h : IntsL w L e w') : ∃ v, e = .returned v ∧ OwN tIntS w' w.heap.size w'.heap.size [v] L ∧ Below w.heap.size w w' := by
  obtain ⟨v, rfl, ho, b⟩ := h
  exact ⟨v, rfl, own_ints ho (fun q hq => (ho.lt q hq).2) (Nat.le_refl _), b⟩
theorem chL_len (F : Nat → TeamD) (T : List (List Int)) (gr most x : Int) : (chL F T gr most x).length ≤ gr.toNat := by
  unfold chL
  split
  · simp
  · exact Nat.zero_le _
theorem marks_nth {F : Nat → TeamD} {T : List (List Int)} {gr most c x : Int} (h : tIntSS.wt T ≤ 1048576) : tIntS.mks ((nthL F T gr most c x).getD []) ≤ 100000000000 := by
  rw [mks_intsD]
  have h2 := flat_wt (T := T)
  unfold nthL
  split
  · show 1 * (atF _ _ _ _ _ _).length ≤ _
    rw [atF_len]
    omega
  · exact Nat.zero_le _
theorem marks_grp {T : List (List Int)} {L : List Int} {g : Int} (h : tIntSS.wt T ≤ 1048576) : tIntS.mks (grpL T.flatten L g T.flatten.length) ≤ 100000000000 := by
  rw [mks_intsD]
  have h1 := grpL_len T.flatten L g T.flatten.length
  have h2 := flat_wt (T := T)
  omega
theorem ch_ex (nf : Nat) (F : Nat → TeamD) (T : List (List Int)) (gr most x : Int) : ∃ R : List Int, (potsP nf F T gr most → R = chL F T gr most x) ∧ (¬ potsP nf F T gr most → R = []) ∧ tIntS.mks R ≤ 100000000000 := by
  by_cases h : potsP nf F T gr most
  · refine ⟨_, fun _ => rfl, fun h2 => absurd h h2, ?_⟩
    rw [mks_intsD]
    have h1 := chL_len F T gr most x
    have h2 := h.2.1
    omega
  · exact ⟨[], fun h2 => absurd h2 h, fun _ => rfl, by rw [mks_intsD]; exact Nat.zero_le _⟩
end Go.Proofs.Ytmhkkdnopcdibaa
set_option linter.unusedVariables false
namespace Go.Proofs.Ytmhkkdnopcdibaa
open Go.RowKit

theorem teamOkI_yes (t : TeamD) (w : World) (hs : t.nm.size ≤ maxLen) (hp : teamP t) :
    Calls Try.prog 81 #[.agg #[.string t.nm, .int .i64 t.club, .int .i64 t.seed]] w fun e w' => e = .returned (.bool true) ∧ Below w.heap.size w w' := by
  obtain ⟨nm, club, seed⟩ := t
  obtain ⟨h1, h2, h3⟩ := hp
  simp only at h1 h2 h3 hs ⊢
  have H1 := Lib.hid h1
  have g1 : decide ((0 : Int) ≤ club) = true := decide_eq_true (by omega)
  have g2 : decide (club < 6) = true := decide_eq_true (by omega)
  have g3 : decide ((1 : Int) ≤ seed) = true := decide_eq_true (by omega)
  have g4 : decide (seed ≤ 8) = true := decide_eq_true (by omega)
  clear h1 h2 h3
  go_enter Try.func81, Try.ntmps81
  go_wp2_with (go_at_call 94; refine (isName_impl _ _ hs).mono ?_; rintro e w' ⟨rfl, bi⟩; obtain ⟨k0, k1, k2⟩ := var3 bi; rw [H1.out])
  go_ret
  exact ⟨rfl, ((Below.refl _ _).alloc (Nat.le_refl _) _).trans (bi.mono (by simp))⟩
theorem teamOkI_no (t : TeamD) (w : World) (hs : t.nm.size ≤ maxLen) (hp : ¬ teamP t) :
    Calls Try.prog 81 #[.agg #[.string t.nm, .int .i64 t.club, .int .i64 t.seed]] w fun e w' => e = .returned (.bool false) ∧ Below w.heap.size w w' := by
  obtain ⟨nm, club, seed⟩ := t
  unfold teamP at hp
  simp only at hp hs ⊢
  by_cases h1 : nameB nm = true
  · have H1 := Lib.hid h1
    have hp : ¬ ((0 ≤ club ∧ club ≤ 5) ∧ 1 ≤ seed ∧ seed ≤ 8) := fun h => hp ⟨h1, h⟩
    clear h1
    by_cases h2 : 0 ≤ club
    · have g1 : decide ((0 : Int) ≤ club) = true := decide_eq_true h2
      by_cases h3 : club < 6
      · have g2 : decide (club < 6) = true := decide_eq_true h3
        by_cases h4 : 1 ≤ seed
        · have g3 : decide ((1 : Int) ≤ seed) = true := decide_eq_true h4
          have g4 : decide (seed ≤ 8) = false := decide_eq_false (by omega)
          clear h2 h3 h4 hp
          go_enter Try.func81, Try.ntmps81
          go_wp2_with (go_at_call 94; refine (isName_impl _ _ hs).mono ?_; rintro e w' ⟨rfl, bi⟩; obtain ⟨k0, k1, k2⟩ := var3 bi; rw [H1.out])
          go_ret
          exact ⟨rfl, ((Below.refl _ _).alloc (Nat.le_refl _) _).trans (bi.mono (by simp))⟩
        · have g3 : decide ((1 : Int) ≤ seed) = false := decide_eq_false h4
          clear h2 h3 h4 hp
          go_enter Try.func81, Try.ntmps81
          go_wp2_with (go_at_call 94; refine (isName_impl _ _ hs).mono ?_; rintro e w' ⟨rfl, bi⟩; obtain ⟨k0, k1, k2⟩ := var3 bi; rw [H1.out])
          go_ret
          exact ⟨rfl, ((Below.refl _ _).alloc (Nat.le_refl _) _).trans (bi.mono (by simp))⟩
      · have g2 : decide (club < 6) = false := decide_eq_false h3
        clear h2 h3 hp
        go_enter Try.func81, Try.ntmps81
        go_wp2_with (go_at_call 94; refine (isName_impl _ _ hs).mono ?_; rintro e w' ⟨rfl, bi⟩; obtain ⟨k0, k1, k2⟩ := var3 bi; rw [H1.out])
        go_ret
        exact ⟨rfl, ((Below.refl _ _).alloc (Nat.le_refl _) _).trans (bi.mono (by simp))⟩
    · have g1 : decide ((0 : Int) ≤ club) = false := decide_eq_false h2
      clear h2 hp
      go_enter Try.func81, Try.ntmps81
      go_wp2_with (go_at_call 94; refine (isName_impl _ _ hs).mono ?_; rintro e w' ⟨rfl, bi⟩; obtain ⟨k0, k1, k2⟩ := var3 bi; rw [H1.out])
      go_ret
      exact ⟨rfl, ((Below.refl _ _).alloc (Nat.le_refl _) _).trans (bi.mono (by simp))⟩
  · have h1' : nameB nm = false := by simpa using h1
    have H1 := Lib.hid h1'
    clear h1 h1' hp
    go_enter Try.func81, Try.ntmps81
    go_wp2_with (go_at_call 94; refine (isName_impl _ _ hs).mono ?_; rintro e w' ⟨rfl, bi⟩; obtain ⟨k0, k1, k2⟩ := var3 bi; rw [H1.out])
    go_ret
    exact ⟨rfl, ((Below.refl _ _).alloc (Nat.le_refl _) _).trans (bi.mono (by simp))⟩
end Go.Proofs.Ytmhkkdnopcdibaa
