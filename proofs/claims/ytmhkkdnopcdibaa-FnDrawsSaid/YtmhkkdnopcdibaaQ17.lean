/-
  Packed: DrwImplL, DrwImplM, DrwImplN, DrwPlain, DrwImplO.
-/
import Derived.Test.YtmhkkdnopcdibaaQ11
import Derived.Test.YtmhkkdnopcdibaaQ13
import Derived.Test.YtmhkkdnopcdibaaQ15
import Derived.Test.YtmhkkdnopcdibaaQ16
set_option linter.unusedVariables false
namespace Go.Proofs.Ytmhkkdnopcdibaa
open Go.RowKit Go.Maps

def oneS (S : Nat → Nat) : Nat := 1
def SprM (w : World) (B b1 b2 k : Nat) (d : DrwD) (i : Nat) (L : List ((Nat → Nat) × Nat)) (e : Ending) (w' : World) : Prop :=
  e = .returned (.tuple #[]) ∧ ∃ T, TabAt w' b2 (k + 1) T ∧ TabAt w' b1 (k + 2) [] ∧ (∀ f, i + 1 + f = d.N → sumL (fun S => zF d f S (i + 1)) T = sumL (fun S => zF d (f + 1) S i) L) ∧ sumL oneS T ≤ 4 * sumL oneS L ∧ Touch B (B + 2) w w'
theorem cnt_one (L : List ((Nat → Nat) × Nat)) (kl : Lit) : cntL L sk kl ≤ sumL oneS L := cnt_le L kl
theorem sum_take {g : (Nat → Nat) → Nat} {Ss : List (Nat → Nat)} {j : Nat} (hj : j < Ss.length) : ((Ss.take (j + 1)).map g).sum = ((Ss.take j).map g).sum + g (Ss.getD j fun _ => 0) := by
  rw [List.take_add_one, List.map_append, List.sum_append, List.getElem?_eq_getElem hj, List.getD_eq_getElem?_getD, List.getElem?_eq_getElem hj]
  simp
structure SprI (w wr : World) (B b1 b2 r k : Nat) (d : DrwD) (i n X : Nat) (L T : List ((Nat → Nat) × Nat)) (Ss : List (Nat → Nat)) (v : Value) (left : Lit → Bool) (cnt j : Nat) (T' : List ((Nat → Nat) × Nat)) : Prop where
  rg : RngAt wr b1 r k L left cnt
  tab : TabAt wr b2 (k + 1) T'
  one : sumL oneS T' = sumL oneS T + n * j
  all : ∀ f, i + 1 + f = d.N → sumL (fun S => zF d f S (i + 1)) T' = sumL (fun S => zF d f S (i + 1)) T + n * ((Ss.take j).map fun S => zF d f S (i + 1)).sum
  own : wr.ownsRow X 114 28 v Ss.length (seatsR Ss)
  t : Touch B (B + 2) w wr
  z : X ≤ wr.heap.size
structure SprO (w wr : World) (B b1 b2 r k : Nat) (d : DrwD) (i : Nat) (L : List ((Nat → Nat) × Nat)) (left : Lit → Bool) (cnt : Nat) (T : List ((Nat → Nat) × Nat)) : Prop where
  rg : RngAt wr b1 r k L left cnt
  tab : TabAt wr b2 (k + 1) T
  one : sumL oneS T + 4 * restL oneS left L ≤ 4 * sumL oneS L
  all : ∀ f, i + 1 + f = d.N → sumL (fun S => zF d f S (i + 1)) T + restL (fun S => zF d (f + 1) S i) left L = sumL (fun S => zF d (f + 1) S i) L
  t : Touch B (B + 2) w wr
set_option maxRecDepth 100000 in
set_option maxHeartbeats 8000000 in
theorem spread_impl (ta : Option Addr) (tn tc : Nat) (d : DrwD) (ok : DrwOk d) (i : Nat) (hiN : i < d.N) (k : Nat) (hk : k ≤ 80) (B b1 b2 p q : Nat) (hb : (b1 = B ∧ b2 = B + 1) ∨ (b1 = B + 1 ∧ b2 = B)) (hpB : p < B) (hqB : B + 2 ≤ q) (L : List ((Nat → Nat) × Nat)) (w : World)
    (h1 : TabAt w b1 k L) (h2 : TabAt w b2 (k + 1) []) (hp : BoxN w p [.slice ta tn tc, .int .i64 d.G, .int .i64 d.most]) (hq : BoxN w q [.int .i64 (d.cl i), .bool (epB d i), .bool (ecB d i)]) (hL : 4 * sumL oneS L < 1000000000) :
    Calls Try.prog 78 #[.map (some b1), .map (some b2), .func (.func 79) #[] #[.pointer (some ⟨p, 0, none⟩), .pointer (some ⟨q, 0, none⟩)]] w (SprM w B b1 b2 k d i L) := by
  have HT1 := Lib.hid h1
  have HT2 := Lib.hid h2
  have hz1 := h1.lt
  have hz2 := h2.lt
  have HLP := Lib.hid h1.2
  have CF : Hid (∀ (S : Nat → Nat) (wa : World), SmallS S k → Touch B (B + 2) w wa → Calls Try.prog 79 #[.agg (seatC S), .pointer (some ⟨p, 0, none⟩), .pointer (some ⟨q, 0, none⟩)] wa (FolM wa d S i k)) :=
    fun S wa hs ht => folC_impl ta tn tc d ok i hiN k (by omega) S p q wa hs (hp.touch ht (.inl hpB)) (hq.touch ht (.inr hqB))
  have HZC : Hid (∀ (f : Nat) (S S' : Nat → Nat), i + f = d.N → (∀ j, j < 28 → S j = S' j) → zF d f S i = zF d f S' i) := fun f S S' hf h => zF_cells ok hf h
  clear h1 h2 hp hq ok
  have hne : b1 ≠ b2 := by omega
  have hB1 : B ≤ b1 ∧ b1 < B + 2 := by omega
  have hB2 : B ≤ b2 ∧ b2 < B + 2 := by omega
  have HL := Lib.hid hL
  clear hb hL
  go_enter Try.func78, Try.ntmps78
  go_wp2_with (at_range; refine wpList_seatRange rfl (.tmp 10) rfl b1 k L rfl HT1.out (by omega) ?_; intro w2 left0 cnt0 hla hr hg2)
  go_frame
  have HO0 : Hid (SprO w w2 B b1 b2 w.heap.size k d i L left0 cnt0 []) := ⟨hr, HT2.out.grown hg2 (by simp), by rw [rest_all oneS hla]; simp [sumL], fun f hf => by rw [rest_all _ hla]; simp [sumL], (Touch.refl _ _ _).grownR hg2 (fun q h => by cases h)⟩
  clear hla hr hg2 HT1 HT2
  have hrw : w.heap.size = w.heap.size := rfl
  obtain ⟨r, hr0⟩ : ∃ r, w.heap.size = r := ⟨_, rfl⟩
  rw [hr0] at HO0 hz1 hz2 ⊢
  clear hrw
  have HR0 := Lib.hid hr0
  clear hr0
  go_loopw [] (fun wr => ∃ (left : Lit → Bool) (cnt : Nat) (T : List ((Nat → Nat) × Nat)), Hid (SprO w wr B b1 b2 r k d i L left cnt T)) (fun wr => wr.rangeLeft b1 r)
  case atStart => exact ⟨_, _, _, HO0⟩
  case round =>
    clear HO0
    obtain ⟨left, cnt, T, HO⟩ := hrel
    go_wp2_with (at_next; refine wpList_seatNext rfl (.tmp 11) rfl b1 r k L left cnt rfl HO.out.rg (by omega) ?_ ?_)
    · intro hno
      have HT := Lib.hid HO.out.t
      have HTB := Lib.hid HO.out.tab
      have HR := Lib.hid HO.out.rg
      have HON : Hid (sumL oneS T ≤ 4 * sumL oneS L) := by have := HO.out.one; show _ ≤ _; omega
      have HAL : Hid (∀ f, i + 1 + f = d.N → sumL (fun S => zF d f S (i + 1)) T = sumL (fun S => zF d (f + 1) S i) L) := fun f hf => by have := HO.out.all f hf; rw [rest_none _ hno] at this; omega
      clear HO hno CF HZC HLP HL
      go_wp2_with (refine wpList_seatClear rfl (.tmp 33) rfl b1 r k (k + 2) L left cnt rfl HR.out ?_; intro w3 ht3 hg3)
      refine bodyPost_end (results_none rfl _ _ _) rfl ?_
      exact ⟨rfl, T, HTB.out.grown hg3.grown (by simp only [ne_eq, Option.some.injEq]; omega), ht3, HAL.out, HON.out, HT.out.grownR hg3.grown (fun q h => by cases h; omega)⟩
    · intro S w4 cnt' hsS hpos hlS hrg4 hlt hg4 hen
      obtain ⟨n, hn⟩ : ∃ n, cntL L sk (sk S) = n := ⟨_, rfl⟩
      rw [hn] at hpos hen
      have HR1 : Hid (restL oneS left L = n + restL oneS (fun z => left z && !z.sameKey (sk S)) L) := by
        have := rest_strike oneS (L := L) hlS (small127 hsS (by omega)) (fun p hp => small127 (HLP.out p hp).2 (by omega)) (fun _ _ _ => rfl)
        rw [hn] at this
        show _ = _
        rw [this]
        simp [oneS]
      have HRZ : Hid (∀ f, i + 1 + f = d.N → restL (fun S => zF d (f + 1) S i) left L = n * zF d (f + 1) S i + restL (fun S => zF d (f + 1) S i) (fun z => left z && !z.sameKey (sk S)) L) := fun f hf => by
        have := rest_strike (fun S => zF d (f + 1) S i) (L := L) hlS (small127 hsS (by omega)) (fun p hp => small127 (HLP.out p hp).2 (by omega)) (fun p hp h => HZC.out (f + 1) p.1 S (by omega) h)
        rw [hn] at this
        exact this
      have HNN : Hid (sumL oneS T + 4 * n + 4 * restL oneS (fun z => left z && !z.sameKey (sk S)) L ≤ 4 * sumL oneS L) := by
        have h1 := HO.out.one
        have h2 := HR1.out
        show _ ≤ _
        omega
      have HNZ : Hid (∀ f, i + 1 + f = d.N → sumL (fun S => zF d f S (i + 1)) T + n * zF d (f + 1) S i + restL (fun S => zF d (f + 1) S i) (fun z => left z && !z.sameKey (sk S)) L = sumL (fun S => zF d (f + 1) S i) L) := fun f hf => by
        have h1 := HO.out.all f hf
        have h2 := HRZ.out f hf
        omega
      have HT4 : Hid (Touch B (B + 2) w w4) := HO.out.t.grownR hg4 (fun q h => by cases h; exact .inl (Nat.le_of_eq HR0.out))
      have HTB4 : Hid (TabAt w4 b2 (k + 1) T) := HO.out.tab.grown hg4 (by simp only [ne_eq, Option.some.injEq]; omega)
      have HCN : Hid (cnt' < wr.rangeLeft b1 r) := by show _ < _; rw [HO.out.rg.left_eq]; exact hlt
      have HRG4 := Lib.hid hrg4
      have hr4 := hrg4.lt
      clear HO HR1 HRZ hlt hg4 hrg4 hlS hn
      generalize (fun z => left z && !z.sameKey (sk S)) = left' at *
      have CF1 : Hid (∀ wa, Touch B (B + 2) w wa → Calls Try.prog 79 #[.agg (seatC S), .pointer (some ⟨p, 0, none⟩), .pointer (some ⟨q, 0, none⟩)] wa (FolM wa d S i k)) := fun wa h => CF.out S wa hsS h
      have hSA := seatC_is S
      generalize seatC S = cs at *
      have HSZ : Hid ((Try.prog.info? 114).map (·.size) = some cs.size) := by show _ = _; rw [hSA.1]; exact seat_info
      have HSE : Hid (zeroSeat.size = cs.size) := by show _ = _; rw [hSA.1]; rfl
      have HAL : Hid (cs.all (·.oneCell') = true) := hSA.all
      have HZ : Hid (Whole (w4.alloc (.cells zeroSeat 114)) w4.heap.size zeroSeat 114) := Whole.made _ _ _
      obtain ⟨w5, hw5⟩ : ∃ w5, (w4.alloc (.cells zeroSeat 114)).setRow w4.heap.size cs = w5 := ⟨_, rfl⟩
      have b5 : Below w4.heap.size w4 w5 := by rw [← hw5]; exact below_setRow ((Below.refl _ _).alloc (Nat.le_refl _) _) (Nat.le_refl _)
      have HW5 : Hid (Whole w5 w4.heap.size cs 114) := by rw [← hw5]; exact HZ.out.setRow
      have g5 := below_grown b5 (Nat.le_refl _)
      have HT5 : Hid (Touch B (B + 2) w w5) := HT4.out.trans (Touch.of_below b5)
      have HTB5 : Hid (TabAt w5 b2 (k + 1) T) := HTB4.out.grown g5 (by simp)
      have HRG5 : Hid (RngAt w5 b1 r k L left' cnt') := HRG4.out.grown g5 (by simp) (by simp)
      simp only [zeroSeat] at hw5
      have HWE := Lib.hid hw5
      have CF5 := Lib.hid (CF1.out w5 HT5.out)
      have hz5 := b5.size
      clear hw5 b5 g5 hSA HT4 HTB4 HRG4 CF1
      go_upto_region 3 with (refine wpList_store_row rfl 114 (.tmp 6) (.tmp 15) rfl w4.heap.size cs rfl rfl 114 zeroSeat HZ.out HSZ.out HSE.out HAL.out ?_)
      rw [HWE.out]
      clear HWE HZ HSE hen
      generalize w4.heap.size = D at *
      go_wp2_with (refine wpList_load_row rfl 114 (.tmp 6) rfl D rfl 114 cs (0, 0) _ HW5.out Try.underlying114 rfl HSZ.out ?_)
      refine CF5.out.mono ?_
      rintro e w6 ⟨v, Ss, rfl, ho, hl4, hsm, hsum, bb⟩
      have g6 := below_grown bb (Nat.le_refl _)
      have HI0 : Hid (SprI w w6 B b1 b2 r k d i n w5.heap.size L T Ss v left' cnt' 0 T) := ⟨HRG5.out.grown g6 (by simp) (by simp), HTB5.out.grown g6 (by simp), by simp, fun f hf => by simp, ho, HT5.out.trans (Touch.of_below bb), bb.size⟩
      obtain ⟨oa, oc, rfl⟩ := owns_form ho
      have HSM := Lib.hid hsm
      have HSU := Lib.hid hsum
      have hX : r < w5.heap.size := by omega
      clear ho hsm hsum bb g6 CF5 HRG5 HTB5 HT5 HW5 HSZ HAL hz5
      generalize w5.heap.size = X at *
      go_wp2
      go_loopw [21] (fun iv wr2 => ∃ (j : Nat) (T' : List ((Nat → Nat) × Nat)), j ≤ Ss.length ∧ iv = .int .i64 j ∧ Hid (SprI w wr2 B b1 b2 r k d i n X L T Ss (.slice oa Ss.length oc) left' cnt' j T')) (fun iv _ => Ss.length - (RowKit.intOf iv).toNat)
      case atStart => exact ⟨0, T, Nat.zero_le _, rfl, HI0⟩
      case round =>
        clear HI0
        obtain ⟨j, T', hj9, rfl, HI⟩ := hrel
        by_cases hlt : j < Ss.length
        · have hj1 : (j : Int) < (Ss.length : Int) := by omega
          obtain ⟨g, oc', hv, hoc, hgX, hgl, hmid⟩ := seats_mid HI.out.own j hlt
          simp only [Value.slice.injEq, true_and] at hv
          obtain ⟨hoa, hoc2⟩ := hv
          subst hoa hoc2
          have hmem : (Ss.getD j fun _ => 0) ∈ Ss := by rw [List.getD_eq_getElem?_getD, List.getElem?_eq_getElem hlt]; exact List.getElem_mem _
          have hsm9 := HSM.out _ hmem
          have HSTK : Hid (∀ g : (Nat → Nat) → Nat, ((Ss.take (j + 1)).map g).sum = ((Ss.take j).map g).sum + g (Ss.getD j fun _ => 0)) := fun g => sum_take hlt
          generalize (Ss.getD j fun _ => 0) = S9 at *
          have HMID := Lib.hid hmid
          have hn4 : n * (j + 1) ≤ n * 4 := Nat.mul_le_mul_left n (by omega)
          have hnj : n * (j + 1) = n * j + n := Nat.mul_succ n j
          have hc0 := cnt_one T' (sk S9)
          have ho0 := HI.out.one
          have hnn := HNN.out
          have hLL := HL.out
          have hlen : T'.length ≤ sumL oneS T' := len_le fun p h => (HI.out.tab.2 p h).1
          obtain ⟨c, hc⟩ : ∃ c, cntL T' sk (sk S9) = c := ⟨_, rfl⟩
          rw [hc] at hc0
          have hcn : c + n < 1000000000 := by omega
          have hln : T'.length < 1000000000 := by omega
          have HADD : Hid (sumL oneS ((S9, n) :: T') = sumL oneS T + n * (j + 1)) := by
            show _ = _
            rw [sumL_cons, ho0, hnj]
            simp only [oneS]
            omega
          have HADZ : Hid (∀ f, i + 1 + f = d.N → sumL (fun S => zF d f S (i + 1)) ((S9, n) :: T') = sumL (fun S => zF d f S (i + 1)) T + n * ((Ss.take (j + 1)).map fun S => zF d f S (i + 1)).sum) := fun f hf => by
            rw [sumL_cons, HI.out.all f hf, HSTK.out, Nat.mul_add]
            omega
          clear hmem HSTK hn4 hnj ho0 hnn hLL hlen hc0
          have HCC := Lib.hid hc
          clear hc
          have hwr : IntKind.i64.wrap ((c : Int) + (n : Int)) = ((c + n : Nat) : Int) := by
            rw [IntWalk.i64_in _ (by omega)]
            push_cast
            rfl
          have hSA := seatC_is S9
          obtain ⟨cs9, hcs9⟩ : ∃ cs9, seatC S9 = cs9 := ⟨_, rfl⟩
          rw [hcs9] at hSA HMID
          have HCS9 := Lib.hid hcs9
          clear hcs9 hmid
          have HSZ : Hid ((Try.prog.info? 114).map (·.size) = some cs9.size) := by show _ = _; rw [hSA.1]; exact seat_info
          have HSE : Hid (zeroSeat.size = cs9.size) := by show _ = _; rw [hSA.1]; rfl
          have HAL : Hid (cs9.all (·.oneCell') = true) := hSA.all
          have HZ : Hid (Whole (wr.alloc (.cells zeroSeat 114)) wr.heap.size zeroSeat 114) := Whole.made _ _ _
          obtain ⟨w8, hw8⟩ : ∃ w8, (wr.alloc (.cells zeroSeat 114)).setRow wr.heap.size cs9 = w8 := ⟨_, rfl⟩
          have b8 : Below wr.heap.size wr w8 := by rw [← hw8]; exact below_setRow ((Below.refl _ _).alloc (Nat.le_refl _) _) (Nat.le_refl _)
          have HW8 : Hid (Whole w8 wr.heap.size cs9 114) := by rw [← hw8]; exact HZ.out.setRow
          have g8 := below_grown b8 (Nat.le_refl _)
          have HI8 : Hid (SprI w w8 B b1 b2 r k d i n X L T Ss (.slice (some ⟨g, 0, none⟩) Ss.length oc) left' cnt' j T') := ⟨HI.out.rg.grown g8 (by simp) (by simp), HI.out.tab.grown g8 (by simp), HI.out.one, HI.out.all, HI.out.own.kept g8 (.inr (by simp [Value.ownBlock])), HI.out.t.trans (Touch.of_below b8), Nat.le_trans HI.out.z b8.size⟩
          have hz8 := b8.size
          have hzX := HI.out.z
          have hD8 : wr.heap.size < w8.heap.size := HW8.out.lt
          simp only [zeroSeat] at hw8
          have HWE := Lib.hid hw8
          clear hw8 b8 g8 hSA HI
          go_upto_region 6 with (first | (refine wpList_load_midA rfl 114 (.tmp 23) rfl g (j * 28) (by rfl) cs9 _ HMID.out Try.underlying114 rfl HSZ.out ?_) | (refine wpList_store_row rfl 114 (.tmp 9) (.tmp 24) rfl wr.heap.size cs9 rfl rfl 114 zeroSeat HZ.out HSZ.out HSE.out HAL.out ?_))
          rw [HWE.out]
          clear HWE HZ HSE HMID HSZ HAL
          have HI8' : Hid (SprI w w8.drew B b1 b2 r k d i n X L T Ss (.slice (some ⟨g, 0, none⟩) Ss.length oc) left' cnt' j T') := ⟨HI8.out.rg, HI8.out.tab, HI8.out.one, HI8.out.all, HI8.out.own, HI8.out.t.trans (Touch.of_below (Below.refl _ _).drew), HI8.out.z⟩
          obtain ⟨v0, st, w9, he, ht9, hl9, w10, hs10, tb10, ht10⟩ := TabAt.entry HI8'.out.tab hsm9 (by omega) hpos (by rw [HCC.out]; exact hcn) hln
          rw [HCC.out] at hl9 hs10
          rw [HCS9.out] at he hl9
          have hlk := TabAt.look HI8'.out.tab (small127 hsm9 (by omega))
          rw [HCC.out, HCS9.out] at hlk
          have g10 := (ht9.trans ht10).grown
          have HI10 : Hid (SprI w w10 B b1 b2 r k d i n X L T Ss (.slice (some ⟨g, 0, none⟩) Ss.length oc) left' cnt' (j + 1) ((S9, n) :: T')) := ⟨HI8'.out.rg.grown g10 (by simp only [ne_eq, Option.some.injEq]; omega) (by simp only [ne_eq, Option.some.injEq]; omega), tb10, HADD.out, HADZ.out, HI8'.out.own.kept g10 (.inr (by simp only [Value.ownBlock, ne_eq, Option.some.injEq]; omega)), HI8'.out.t.grownR g10 (fun q h => by cases h; exact .inr hB2), Nat.le_trans HI8'.out.z g10.size⟩
          have HLK := Lib.hid hlk
          have HLK9 := Lib.hid hl9
          have HEN := Lib.hid he
          have HES := Lib.hid hs10
          generalize wr.heap.size = D9 at *
          obtain ⟨Sc, HSd⟩ : ∃ Sc : World → Prop, Sc = fun w' => Whole w' D9 cs9 114 := ⟨_, rfl⟩
          have OS : Hid (∀ wa, Sc wa → Whole wa D9 cs9 114) := by subst HSd; exact fun wa h => h
          have KS : Hid (∀ wa wb, Sc wa → wa.mapTurned wb b2 → Sc wb) := by subst HSd; exact fun wa wb h t => (t.grown.block D9 h.lt (by simp only [ne_eq, Option.some.injEq]; omega)).trans h
          have KS0 : Hid (Sc w8.drew) := by subst HSd; exact HW8.out
          have KS9 : Hid (Sc w9) := KS.out _ _ KS0.out ht9
          have KS10 : Hid (Sc w10) := KS.out _ _ KS9.out ht10
          have HSA9 : Hid (SeatA cs9 S9) := by rw [← HCS9.out]; exact seatC_is S9
          clear HSd he ht9 hl9 hs10 tb10 ht10 hlk g10 HI8 HI8' HW8 hcn hln
          refine wp_region_held_drew (S := Sc) (by kernel_rfl) ?_ (fun hHeld => ?_)
          · exact KS0.out
          refine wpAnyH_take (i := 0) (v := ?_) rfl (by kernel_rfl) (by kernel_rfl) (by kernel_rfl) (fun _ _ _ h => h) (Or.inl ⟨by rfl, ?_⟩) (by assumption) ?_
          rotate_left
          · (intro wa hSw; go_simp; try with_reducible rfl)
          simp only [Act.put, List.getElem_toArray, List.getElem_cons_zero, List.setIfInBounds_toArray, List.set_cons_zero, List.set_cons_succ]
          refine wpAnyH_take (i := 1) (v := .agg cs9) rfl (by kernel_rfl) (by kernel_rfl) (by kernel_rfl) (fun _ _ _ h => h) (Or.inl ⟨by rfl, ?_⟩) (by assumption) ?_
          · (intro wa hSw; exact exec_load_whole (ty := 114) (x := .tmp 9) (g := D9) (by rfl) (by rfl) (seat_load HSA9.out (OS.out _ hSw)))
          simp only [Act.put, List.getElem_toArray, List.getElem_cons_zero, List.getElem_cons_succ, List.setIfInBounds_toArray, List.set_cons_zero, List.set_cons_succ]
          refine wpAnyH_take (i := 3) (v := ?_) rfl (by kernel_rfl) (by kernel_rfl) (by kernel_rfl) (fun _ _ _ h => h) (Or.inl ⟨by rfl, ?_⟩) (by assumption) ?_
          rotate_left
          · (intro wa hSw; go_simp; try with_reducible rfl)
          simp only [Act.put, List.getElem_toArray, List.getElem_cons_zero, List.getElem_cons_succ, List.setIfInBounds_toArray, List.set_cons_zero, List.set_cons_succ]
          refine wpAnyH_ready (rs := [2, 5]) (by kernel_rfl) (by simp) ?_
          refine AllReadyH.cons (o := _) rfl (fun K hK => ?_) (AllReadyH.cons (o := _) rfl (fun K hK => ?_) AllReadyH.nil)
          · rw [if_pos (by rfl)]
            refine wp_look rfl (by rfl) (by rfl) HLK.out ?_
            refine hK.out _ _ hHeld (fun hHeld1 => ?_)
            clear hK K hHeld
            simp only [Act.put, List.getElem_toArray, List.getElem_cons_zero, List.getElem_cons_succ, List.setIfInBounds_toArray, List.set_cons_zero, List.set_cons_succ]
            refine wpAnyH_take (i := 4) (v := .int .i64 ((c + n : Nat) : Int)) rfl (by kernel_rfl) (by kernel_rfl) (by kernel_rfl) (fun _ _ _ h => h) (Or.inl ⟨by rfl, ?_⟩) (by assumption) ?_
            · (intro wa hSw; go_simp)
            simp only [Act.put, List.getElem_toArray, List.getElem_cons_zero, List.getElem_cons_succ, List.setIfInBounds_toArray, List.set_cons_zero, List.set_cons_succ]
            refine wpAnyH_ready (rs := [5]) (by kernel_rfl) (by simp) ?_
            refine AllReadyH.cons (o := _) rfl (fun K hK => ?_) AllReadyH.nil
            rw [if_pos (by rfl)]
            refine wp_entry rfl (by rfl) (by rfl) HEN.out ?_
            refine hK.out _ _ KS9.out (fun hHeld => ?_)
            clear hK K hHeld1
            simp only [Act.put, List.getElem_toArray, List.getElem_cons_zero, List.getElem_cons_succ, List.setIfInBounds_toArray, List.set_cons_zero, List.set_cons_succ]
            refine wpAnyH_take (i := 6) (v := ?_) rfl (by kernel_rfl) (by kernel_rfl) (by kernel_rfl) (fun _ _ _ h => h) (Or.inl ⟨by rfl, ?_⟩) (by assumption) ?_
            rotate_left
            · (intro wa hSw; go_simp; try with_reducible rfl)
            simp only [Act.put, List.getElem_toArray, List.getElem_cons_zero, List.getElem_cons_succ, List.setIfInBounds_toArray, List.set_cons_zero, List.set_cons_succ]
            refine wpAnyH_ready (rs := [7]) (by kernel_rfl) (by simp) ?_
            refine AllReadyH.cons (o := _) rfl (fun K hK => ?_) AllReadyH.nil
            rw [if_pos (by rfl)]
            refine wp_entryStore rfl (by rfl) (by rfl) (by rfl) HES.out ?_
            refine hK.out _ _ KS10.out (fun hHeld9 => ?_)
            clear hK K
            try simp only [Act.put]
            refine wpAnyH_done (by kernel_rfl) ?_ _
            clear hHeld9 KS KS0 KS9 KS10 OS HLK HLK9 HEN HES HSA9 HCS9 HCC
            go_wp2_with fail
            go_roundw
            case rel => exact ⟨j + 1, _, by omega, by go_num, HI10⟩
            case measure => simp [RowKit.intOf]; omega
          · rw [if_pos (by rfl)]
            refine wp_entry rfl (by rfl) (by rfl) HEN.out ?_
            refine hK.out _ _ KS9.out (fun hHeld1 => ?_)
            clear hK K hHeld
            simp only [Act.put, List.getElem_toArray, List.getElem_cons_zero, List.getElem_cons_succ, List.setIfInBounds_toArray, List.set_cons_zero, List.set_cons_succ]
            refine wpAnyH_take (i := 6) (v := ?_) rfl (by kernel_rfl) (by kernel_rfl) (by kernel_rfl) (fun _ _ _ h => h) (Or.inl ⟨by rfl, ?_⟩) (by assumption) ?_
            rotate_left
            · (intro wa hSw; go_simp; try with_reducible rfl)
            simp only [Act.put, List.getElem_toArray, List.getElem_cons_zero, List.getElem_cons_succ, List.setIfInBounds_toArray, List.set_cons_zero, List.set_cons_succ]
            refine wpAnyH_ready (rs := [2]) (by kernel_rfl) (by simp) ?_
            refine AllReadyH.cons (o := _) rfl (fun K hK => ?_) AllReadyH.nil
            rw [if_pos (by rfl)]
            refine wp_look rfl (by rfl) (by rfl) HLK9.out ?_
            refine hK.out _ _ KS9.out (fun hHeld => ?_)
            clear hK K hHeld1
            simp only [Act.put, List.getElem_toArray, List.getElem_cons_zero, List.getElem_cons_succ, List.setIfInBounds_toArray, List.set_cons_zero, List.set_cons_succ]
            refine wpAnyH_take (i := 4) (v := .int .i64 ((c + n : Nat) : Int)) rfl (by kernel_rfl) (by kernel_rfl) (by kernel_rfl) (fun _ _ _ h => h) (Or.inl ⟨by rfl, ?_⟩) (by assumption) ?_
            · (intro wa hSw; go_simp)
            simp only [Act.put, List.getElem_toArray, List.getElem_cons_zero, List.getElem_cons_succ, List.setIfInBounds_toArray, List.set_cons_zero, List.set_cons_succ]
            refine wpAnyH_ready (rs := [7]) (by kernel_rfl) (by simp) ?_
            refine AllReadyH.cons (o := _) rfl (fun K hK => ?_) AllReadyH.nil
            rw [if_pos (by rfl)]
            refine wp_entryStore rfl (by rfl) (by rfl) (by rfl) HES.out ?_
            refine hK.out _ _ KS10.out (fun hHeld9 => ?_)
            clear hK K
            try simp only [Act.put]
            refine wpAnyH_done (by kernel_rfl) ?_ _
            clear hHeld9 KS KS0 KS9 KS10 OS HLK HLK9 HEN HES HSA9 HCS9 HCC
            go_wp2_with fail
            go_roundw
            case rel => exact ⟨j + 1, _, by omega, by go_num, HI10⟩
            case measure => simp [RowKit.intOf]; omega
        · have hje : j = Ss.length := by omega
          subst hje
          have HON : Hid (SprO w wr B b1 b2 r k d i L left' cnt' T') := by
            refine ⟨HI.out.rg, HI.out.tab, ?_, fun f hf => ?_, HI.out.t⟩
            · have h1 := HI.out.one
              have h2 := HNN.out
              have h3 : n * Ss.length ≤ n * 4 := Nat.mul_le_mul_left n hl4
              omega
            · have h1 := HI.out.all f hf
              have h2 := HNZ.out f hf
              rw [List.take_length, HSU.out f hf] at h1
              omega
          have HLE : Hid (wr.rangeLeft b1 r = cnt') := HI.out.rg.left_eq
          clear HI HNN HNZ HSU HSM
          go_wp2
          go_roundw
          case rel => exact ⟨left', cnt', T', HON⟩
          case measure => rw [HLE.out]; exact HCN.out
end Go.Proofs.Ytmhkkdnopcdibaa
set_option linter.unusedVariables false
namespace Go.Proofs.Ytmhkkdnopcdibaa
open Go.RowKit Go.Maps

theorem wpList_seatInsert {w : World} {ops : Array Oper} {rest : List Oper} {o : Oper} {a : Act} {Q : Exit → Act → World → Prop} (hg : o.guard = none) (m x v : Operand) (hop : o.op = Op.insert 117 m x v)
    (b k : Nat) (S : Nat → Nat) (cs : Array Value) (hm : a.eval m = .map (some b)) (hx : a.eval x = .agg cs) (hcs : seatC S = cs) (hv : a.eval v = .int .i64 1) (h : TabAt w b k []) (hS : SmallS S k) (hk : k ≤ 90)
    (hK : ∀ w', TabAt w' b k [(S, 1)] → w.mapTurned w' b → w'.heap.size = w.heap.size → wpList Try.prog ops Q rest (a.put o.dst undef) w') :
    wpList Try.prog ops Q (o :: rest) a w := by
  refine wpList_plain hg fun K' hK' => ?_
  have hc0 : cntL [] sk (sk S) = 0 := by simp [cntL]
  obtain ⟨w', hrun, r1, r2⟩ := h.put (n := 1) hS hk (by omega) (by rw [hc0]; omega) (by simp)
  rw [hc0, hcs] at hrun
  simp only [Nat.zero_add, Int.natCast_one] at hrun
  unfold Oper.wp
  simp [execOp, hop, hm, hx, hv, hrun, Result.andThen]
  refine hK' _ _ (hK w' r1 r2 ?_)
  obtain ⟨es, clock, es', clock', hb, rfl⟩ := r2
  simp [Go.ChangeMaps.setBlock]
theorem foldS_small (d : DrwD) : ∀ (L : List Int) (i n : Nat) (S S' : Nat → Nat), SmallS S n → foldS d L i S = some S' → SmallS S' (n + L.length)
  | [], i, n, S, S', h, e => by
    simp only [foldS, Option.some.injEq] at e
    subst e
    exact h
  | x :: L, i, n, S, S', h, e => by
    rw [foldS_cons] at e
    split at e
    · have := foldS_small d L (i + 1) (n + 1) _ S' h.next e
      rw [List.length_cons, show n + (L.length + 1) = n + 1 + L.length by omega]
      exact this
    · cases e
def cntP (d : DrwD) (L : List Int) : Nat := match foldP d L with
  | some S => zF d (d.N - L.length) S L.length
  | none => 0
theorem run_makeMap1 {P : Program} {t k e : TypeId} (ht : P.underlying t = some (.map k e)) (w : World) : (Instr.makeMap t none).run P w = .ok (.map (some w.heap.size)) (w.alloc (.map #[] 0)) := by
  simp [Instr.makeMap, Result.andThen]
  try rfl
theorem zF_end (d : DrwD) (S : Nat → Nat) (f : Nat) : zF d f S d.N = 1 := by
  cases f with
  | zero => show (if d.N = d.N then 1 else 0) = 1; rw [if_pos rfl]
  | succ f => rw [zF_succ, if_pos rfl]
structure CfI (w wr : World) (B b1 b2 m x : Nat) (d : DrwD) (tv : Value) (R : Nat) (T : List ((Nat → Nat) × Nat)) : Prop where
  hb : (b1 = B ∧ b2 = B + 1) ∨ (b1 = B + 1 ∧ b2 = B)
  t1 : TabAt wr b1 (m + x) T
  t2 : TabAt wr b2 (m + x + 1) []
  all : ∀ f, m + x + f = d.N → sumL (fun S => zF d f S (m + x)) T = R
  one : sumL oneS T ≤ 4 ^ x
  bx : BoxN wr w.heap.size [tv, .int .i64 d.G, .int .i64 d.most]
  bel : Below w.heap.size w wr
  z : B + 2 ≤ wr.heap.size
  hB : w.heap.size < B
def restV (ta : Option Addr) (m n tc : Nat) : Value := .slice (if tc = m then ta else ta.map fun x => x.add (m * 3)) (n - m) (tc - m)
set_option maxRecDepth 100000 in
set_option maxHeartbeats 8000000 in
theorem countFrom_impl (ta : Option Addr) (tc : Nat) (d : DrwD) (ok : DrwOk d) (vp : Value) (L : List Int) (w : World) (hT : TurnsAt w (.slice ta d.N tc) d) (hv : IntRow w vp L.length (getI L)) :
    Calls Try.prog 44 #[.agg #[.slice ta d.N tc, .int .i64 d.G, .int .i64 d.most], vp] w fun e w' => e = .returned (.int .i64 (cntP d L)) ∧ Below w.heap.size w w' := by
  obtain ⟨va, vc, rfl, hl9, _⟩ := hv.form
  obtain ⟨W, hW⟩ : ∃ W, w.alloc (.cells #[.slice ta d.N tc, .int .i64 d.G, .int .i64 d.most] 61) = W := ⟨_, rfl⟩
  have b1 : Below w.heap.size w W := by rw [← hW]; exact (Below.refl w.heap.size w).alloc (Nat.le_refl _) _
  have HX : Hid (BoxN W w.heap.size [.slice ta d.N tc, .int .i64 d.G, .int .i64 d.most]) := by rw [← hW]; exact BoxN.made (Below.refl _ _) rfl
  have CA := Lib.hid (afterAll_impl ta tc d ok (.slice va L.length vc) L W (RecRow.below hT b1 (Nat.le_refl _)) (hv.below b1 (Nat.le_refl _)))
  have HB := Lib.hid b1
  have HOK := Lib.hid ok
  have HTT := Lib.hid hT
  have hN8 := ok.N
  have HSS : Hid (∀ S, foldP d L = some S → L.length ≤ d.N ∧ SmallS S L.length) := fun S h => by
    unfold foldP at h
    by_cases hl : L.length ≤ d.N
    · rw [if_pos hl] at h
      have := foldS_small d L 0 0 _ S (fun _ => Nat.le_refl _) h
      rw [Nat.zero_add] at this
      exact ⟨hl, this⟩
    · rw [if_neg hl] at h; cases h
  obtain ⟨R, hR⟩ : ∃ R, cntP d L = R := ⟨_, rfl⟩
  rw [hR]
  unfold cntP at hR
  obtain ⟨m, hm⟩ : ∃ m, L.length = m := ⟨_, rfl⟩
  rw [hm] at hl9 CA HSS hR ⊢
  obtain ⟨RR, hRR⟩ : ∃ RR, foldP d L = RR := ⟨_, rfl⟩
  rw [hRR] at CA HSS hR
  have HRE := Lib.hid hR
  clear hm hRR hv hT b1 ok hR
  have c0 := HX.out.2 0 _ rfl
  have c1 := HX.out.2 1 _ rfl
  have c2 := HX.out.2 2 _ rfl
  have z0 := HX.out.1
  go_enter Try.func44, Try.ntmps44
  go_wp2_with fail
  clear hW c0 c1 c2 z0
  refine CA.out.mono ?_
  rintro e w1 ⟨cs, S, rfl, hs, hS2, b⟩
  have HS := Lib.hid hs
  have HS2 := Lib.hid hS2
  have HB1 := Lib.hid (HB.out.trans (b.mono HB.out.size))
  have HX1 := Lib.hid (HX.out.below b)
  have HZ : Hid (Whole (w1.alloc (.cells zeroSeat 114)) w1.heap.size zeroSeat 114) := Whole.made _ _ _
  obtain ⟨V, hV⟩ : ∃ V, (w1.alloc (.cells zeroSeat 114)).setRow w1.heap.size cs = V := ⟨_, rfl⟩
  have bV : Below w1.heap.size w1 V := by rw [← hV]; exact below_setRow ((Below.refl _ _).alloc (Nat.le_refl _) _) (Nat.le_refl _)
  have HV5 : Hid (Whole V w1.heap.size cs 114) := by rw [← hV]; exact HZ.out.setRow
  have HXV := Lib.hid (HX1.out.below bV)
  have HBV := Lib.hid (HB1.out.trans (bV.mono HB1.out.size))
  have HSZ : Hid ((Try.prog.info? 114).map (·.size) = some cs.size) := by show _ = _; rw [hs.1]; exact seat_info
  have HSE : Hid (zeroSeat.size = cs.size) := by show _ = _; rw [hs.1]; rfl
  have HAL : Hid (cs.all (·.oneCell') = true) := hs.all
  simp only [zeroSeat] at hV
  have HWE := Lib.hid hV
  clear hs b CA HX HB HX1 hV bV hS2
  go_upto_region 2 with (refine wpList_store_row rfl 114 (.tmp 5) (.tmp 18) rfl w1.heap.size cs rfl rfl 114 zeroSeat HZ.out HSZ.out HSE.out HAL.out ?_)
  rw [HWE.out]
  clear HWE HZ HSE HAL HB1
  generalize w1.heap.size = D5 at *
  cases RR with
  | none =>
    obtain rfl : 0 = R := HRE.out
    go_wp2
    go_ret
    exact ⟨rfl, HBV.out⟩
  | some S0 =>
    obtain rfl : S = S0 := HS2.out S0 rfl
    obtain ⟨hmN, hsm⟩ := HSS.out S rfl
    have HSM := Lib.hid hsm
    have HRE2 : Hid (zF d (d.N - m) S m = R) := HRE.out
    clear hsm HSS HS2 HRE
    have HCE : Hid (seatC S = cs) := HS.out.eqC.symm
    have HM1 : Hid (TabAt (V.alloc (.map #[] 0)) V.heap.size m []) := TabAt.made V m
    have bA : Below V.heap.size V (V.alloc (.map #[] 0)) := (Below.refl _ _).alloc (Nat.le_refl _) _
    have HV6 : Hid (Whole (V.alloc (.map #[] 0)) D5 cs 114) := HV5.out.below bA
    have HXA : Hid (BoxN (V.alloc (.map #[] 0)) w.heap.size [.slice ta d.N tc, .int .i64 d.G, .int .i64 d.most]) := HXV.out.below bA
    have HBA : Hid (Below w.heap.size w (V.alloc (.map #[] 0))) := HBV.out.alloc HBV.out.size _
    have hVB : w.heap.size < V.heap.size := HXV.out.1
    have hmm := @run_makeMap1 Try.prog _ _ _ Try.underlying117
    clear bA HXV HBV HV5 HS
    go_upto_region 5 with (first | (refine wpList_seatInsert rfl (.tmp 22) (.tmp 23) _ rfl V.heap.size m S cs rfl rfl HCE.out rfl HM1.out HSM.out (by omega) ?_; intro U2 tb2 mt2 hs2) | (refine wpList_load_row rfl 114 (.tmp 5) rfl D5 rfl 114 cs (0, 0) _ HV6.out Try.underlying114 rfl HSZ.out ?_))
    have hs3 : U2.heap.size = V.heap.size + 1 := by rw [hs2]; simp
    have g2 := mt2.grown
    obtain ⟨U3, hU3⟩ : ∃ U3, U2.alloc (.map #[] 0) = U3 := ⟨_, rfl⟩
    have HC0 : Hid (CfI w U3 V.heap.size V.heap.size (V.heap.size + 1) m 0 d (.slice ta d.N tc) R [(S, 1)]) := by
      rw [← hU3]
      have t2 := TabAt.made U2 (m + 0 + 1)
      rw [hs3] at t2
      refine ⟨.inl ⟨rfl, rfl⟩, tb2.grown (World.grownBy_alloc _ _ none) (by simp), t2, fun f hf => ?_, ?_, (HXA.out.grown g2 (fun e => by simp only [Option.some.injEq] at e; omega)).below ((Below.refl _ _).alloc (Nat.le_refl _) _), (HBA.out.grown g2 HBA.out.size (fun q h => by cases h; omega)).alloc (by omega) _, by simp; omega, hVB⟩
      · have e : f = d.N - m := by omega
        subst e
        simp only [Nat.add_zero]
        rw [sumL_cons, HRE2.out]
        simp [sumL]
      · rw [sumL_cons]; simp [sumL, oneS]
    rw [hU3]
    clear hU3 g2 mt2 tb2 hs2 hs3 HXA HBA HV6 HM1 hVB HRE2 HSM HCE HSZ hmm
    generalize V.heap.size = B at *
    obtain ⟨ta9, tc9, hform, _, hcells⟩ := RecRow.form HTT.out
    simp only [Value.slice.injEq] at hform
    obtain ⟨rfl, hN9, rfl⟩ := hform
    have HRV : Hid (∀ (wx : World) (x : Nat), Below w.heap.size w wx → m + x < d.N → ∃ b off, (if tc = m then ta else ta.map fun x => x.add (m * 3)) = some ⟨b, off, none⟩ ∧ wx.cell? ⟨b, off + x * 3, none⟩ = some (.int .i64 (d.cl (m + x))) ∧ wx.cell? ⟨b, off + x * 3 + 1, none⟩ = some (.bool (epB d (m + x))) ∧ wx.cell? ⟨b, off + x * 3 + 2, none⟩ = some (.bool (ecB d (m + x)))) := fun wx x hb hx => by
      obtain ⟨tb, toff, rfl, htc, k0, k1, k2⟩ := turn_cells (RecRow.below HTT.out hb (Nat.le_refl _)) hx
      refine ⟨tb, toff + m * 3, ?_, ?_, ?_, ?_⟩
      · rw [if_neg (by omega)]
        simp [Addr.add]
      · rw [show toff + m * 3 + x * 3 = toff + (m + x) * 3 by omega]; exact k0
      · rw [show toff + m * 3 + x * 3 = toff + (m + x) * 3 by omega]; exact k1
      · rw [show toff + m * 3 + x * 3 = toff + (m + x) * 3 by omega]; exact k2
    have hcap : d.N ≤ tc := by
      by_cases h0 : 0 < d.N
      · exact (hcells h0).choose_spec.choose_spec.2.1
      · omega
    clear hcells hN9
    have c0 := HC0.out.bx.2 0 _ rfl
    have z0 := HC0.out.bx.1
    have hs1 : (m : Int) ≤ (d.N : Int) := by omega
    have hs2 : (d.N : Int) ≤ (tc : Int) := by omega
    go_cut [30, 31, 32] (fun s30 s31 s32 wx => s30 = restV ta m d.N tc ∧ s31 = .int .i64 ((d.N - m : Nat) : Int) ∧ s32 = .int .i64 0 ∧ wx = U3)
    case first =>
      clear HRV HC0
      by_cases e : tc = m
      · subst e
        go_wp2_with fail
        go_meet
        case rel => exact ⟨by unfold restV; rw [if_pos rfl, Nat.sub_self, show d.N - tc = 0 by omega], by rw [show d.N - tc = 0 by omega]; rfl, rfl, rfl⟩
      · go_wp2_with fail
        go_meet
        case rel => exact ⟨by unfold restV; rw [if_neg e], rfl, rfl, rfl⟩
    case rest =>
      obtain ⟨rfl, rfl, rfl, rfl⟩ := hcut
      unfold restV
      generalize (if tc = m then ta else ta.map fun x => x.add (m * 3)) = a9 at *
      obtain ⟨nq, hnq⟩ : ∃ nq, d.N - m = nq := ⟨_, rfl⟩
      rw [hnq]
      have hNq : m + nq = d.N := by omega
      clear c0 z0 hs1 hs2 hnq
      generalize wc = U9 at *
      go_wp2_with fail
      go_loopw [7, 8, 32] (fun s7 s8 s32 wr => ∃ (x b1 b2 : Nat) (T : List ((Nat → Nat) × Nat)), x ≤ nq ∧ s7 = .map (some b1) ∧ s8 = .map (some b2) ∧ s32 = .int .i64 x ∧ Hid (CfI w wr B b1 b2 m x d (.slice ta d.N tc) R T)) (fun _ _ iv _ => nq - (RowKit.intOf iv).toNat)
      case atStart => exact ⟨0, _, _, _, Nat.zero_le _, rfl, rfl, rfl, HC0⟩
      case round =>
        clear HC0
        obtain ⟨x, b1, b2, T, hx9, rfl, rfl, rfl, HC⟩ := hrel
        by_cases hlt : x < nq
        · obtain ⟨tb, toff, ha9, k0, k1, k2⟩ := HRV.out wr x HC.out.bel (by omega)
          subst ha9
          have hj : (x : Int) < (nq : Int) := by omega
          have hpow : 4 * sumL oneS T < 1000000000 := by
            have h1 := HC.out.one
            have h2 : 4 ^ x ≤ 4 ^ 8 := Nat.pow_le_pow_right (by omega) (by omega)
            have h3 : (4 : Nat) ^ 8 = 65536 := by decide
            omega
          obtain ⟨w7, hw7⟩ : ∃ w7, wr.alloc (.cells #[.int .i64 (d.cl (m + x)), .bool (epB d (m + x)), .bool (ecB d (m + x))] 108) = w7 := ⟨_, rfl⟩
          have b7 : Below wr.heap.size wr w7 := by rw [← hw7]; exact (Below.refl _ _).alloc (Nat.le_refl _) _
          have g7 := below_grown b7 (Nat.le_refl _)
          have hq7 : BoxN w7 wr.heap.size [.int .i64 (d.cl (m + x)), .bool (epB d (m + x)), .bool (ecB d (m + x))] := by rw [← hw7]; exact BoxN.made (Below.refl _ _) rfl
          have hp7 := HC.out.bx.below b7
          have CS := Lib.hid (spread_impl ta d.N tc d HOK.out (m + x) (by omega) (m + x) (by omega) B b1 b2 w.heap.size wr.heap.size HC.out.hb HC.out.hB HC.out.z T w7 (HC.out.t1.grown g7 (by simp)) (HC.out.t2.grown g7 (by simp)) hp7 hq7 hpow)
          have HP7 := Lib.hid hp7
          have HB7 : Hid (Below w.heap.size w w7) := HC.out.bel.trans (b7.mono HC.out.bel.size)
          have hz7 := b7.size
          generalize d.cl (m + x) = cl at *
          generalize epB d (m + x) = ep at *
          generalize ecB d (m + x) = ec at *
          have HWE := Lib.hid hw7
          clear hw7 b7 g7 hq7 hp7 hpow
          go_upto_region 8 with fail
          rw [HWE.out]
          clear HWE k0 k1 k2
          go_wp2_with fail
          refine CS.out.mono ?_
          rintro e w8 ⟨rfl, T', tb1, tb2, hall, hone, ht⟩
          have HCN : Hid (CfI w w8 B b2 b1 m (x + 1) d (.slice ta d.N tc) R T') := by
            have hB := HC.out.hB
            have hz := HC.out.z
            have hsz := ht.size
            refine ⟨by have := HC.out.hb; omega, tb1, tb2, fun f hf => ?_, ?_, HP7.out.touch ht (.inl hB), HB7.out.trans (ht.below (by omega) (by omega)), by omega, hB⟩
            · have h1 := hall f (by omega)
              have h2 := HC.out.all (f + 1) (by omega)
              exact h1.trans h2
            · have h1 := HC.out.one
              have h2 : 4 ^ (x + 1) = 4 ^ x * 4 := Nat.pow_succ 4 x
              omega
          clear HC CS HP7 HB7 tb1 tb2 hall hone ht hz7
          go_wp2
          go_roundw
          case rel => exact ⟨x + 1, b2, b1, T', by omega, rfl, rfl, by go_num, HCN⟩
          case measure => simp [RowKit.intOf]; omega
        · obtain rfl : x = nq := by omega
          have HT1 := Lib.hid HC.out.t1
          have HBE := Lib.hid HC.out.bel
          have hB := HC.out.hB
          have hb := HC.out.hb
          have HRR : Hid (sumL oneS T = R) := by
            have h1 := HC.out.all 0 (by omega)
            have h2 : (fun S => zF d 0 S (m + x)) = oneS := by
              funext S
              show zF d 0 S (m + x) = 1
              rw [hNq]
              exact zF_end d S 0
            rw [h2] at h1
            exact h1
          have h4 : sumL oneS T < 1000000000 := by
            have h1 := HC.out.one
            have h2 : 4 ^ x ≤ 4 ^ 8 := Nat.pow_le_pow_right (by omega) (by omega)
            have h3 : (4 : Nat) ^ 8 = 65536 := by decide
            omega
          rw [HRR.out] at h4
          have hWz := HBE.out.size
          have hT1l := HT1.out.lt
          have hk8 : m + x ≤ 8 := by omega
          clear HC HRV hNq
          go_wp2_with (at_range; refine wpList_seatRange rfl (.tmp 43) rfl b1 (m + x) T rfl HT1.out (by omega) ?_; intro w9 left0 cnt0 hla hr hg9)
          go_frame
          have HR0 := Lib.hid hr
          have HS0 : Hid (0 + restL oneS left0 T = R) := by show _ = _; rw [rest_all oneS hla, HRR.out, Nat.zero_add]
          have HB0 : Hid (Below w.heap.size w w9) := HBE.out.grown hg9 hWz (fun q h => by cases h)
          have hr9 : w.heap.size ≤ wr.heap.size := hWz
          clear hla hr hg9 HT1 HBE HRR hWz
          generalize wr.heap.size = r at *
          go_loopw [11] (fun s11 wz => ∃ (s : Nat) (left : Lit → Bool) (cnt : Nat), s11 = .int .i64 s ∧ Hid (RngAt wz b1 r (m + x) T left cnt) ∧ Hid (s + restL oneS left T = R) ∧ Hid (Below w.heap.size w wz)) (fun _ wz => wz.rangeLeft b1 r)
          case atStart => exact ⟨0, _, _, rfl, HR0, HS0, HB0⟩
          case round =>
            clear HR0 HS0 HB0
            obtain ⟨s, left, cnt, rfl, HR, HS, HB⟩ := hrel
            go_wp2_with (at_next; refine wpList_seatNext rfl (.tmp 44) rfl b1 r (m + x) T left cnt rfl HR.out (by omega) ?_ ?_)
            · intro hno
              obtain rfl : s = R := by have := HS.out; rw [rest_none _ hno] at this; omega
              clear HR HS hno
              go_wp2
              go_ret
              exact ⟨rfl, HB.out⟩
            · intro S9 w4 cnt' hsS hpos hlS hrg4 hlt9 hg4 hen
              have hst := rest_strike oneS (L := T) hlS (small127 hsS (by omega)) (fun p hp => small127 (HR.out.2.2 p hp).2 (by omega)) (fun _ _ _ => rfl)
              obtain ⟨n, hn⟩ : ∃ n, cntL T sk (sk S9) = n := ⟨_, rfl⟩
              rw [hn] at hst hen
              have hss := HS.out
              have e1 : oneS S9 = 1 := rfl
              rw [hst, e1, Nat.mul_one] at hss
              have HSN : Hid (s + n + restL oneS (fun z => left z && !z.sameKey (sk S9)) T = R) := by show _ = _; omega
              have hsn : s + n ≤ R := by omega
              have HM : Hid (w4.rangeLeft b1 r < wr.rangeLeft b1 r) := by show _ < _; rw [hrg4.left_eq, HR.out.left_eq]; exact hlt9
              have HB4 : Hid (Below w.heap.size w w4) := HB.out.grown hg4 HB.out.size (fun q h => by cases h; exact hr9)
              have HR4 := Lib.hid hrg4
              clear HR HS HB hst hss hrg4 hlt9 hg4 hn hlS hsS
              generalize (fun z => left z && !z.sameKey (sk S9)) = left' at *
              generalize seatC S9 = cs9 at *
              go_wp2
              go_roundw
              case rel => exact ⟨s + n, left', cnt', by go_num, HR4, HSN, HB4⟩
              case measure => exact HM.out
end Go.Proofs.Ytmhkkdnopcdibaa
set_option linter.unusedVariables false
namespace Go.Proofs.Ytmhkkdnopcdibaa
open Go.RowKit Go.Maps

theorem cntP_eq {nf : Nat} {F : Nat → TeamD} {T : List (List Int)} {gr most : Int} (hp : potsP nf F T gr most) (L : List Int) : cdN F T gr most L = (cntP (drwD F T gr most) L : Int) := by
  have ok := drw_ok hp
  unfold cdN cntP foldP begB
  show (match (if L.length ≤ (drwD F T gr most).N then begF (drwD F T gr most) L 0 noP noC else none) with | some (P, C) => ((cntF (drwD F T gr most) ((drwD F T gr most).N - L.length) P C L.length : Nat) : Int) | none => 0) = _
  generalize drwD F T gr most = d at *
  by_cases hl : L.length ≤ d.N
  · rw [if_pos hl, if_pos hl]
    obtain ⟨h1, h2⟩ := Sim.fold ok L 0 (fun _ => 0) noP noC (by omega) (Sim.start d)
    cases hf : foldS d L 0 (fun _ => 0) with
    | none => rw [h2 hf]; rfl
    | some S =>
      obtain ⟨P, C, hb, hs⟩ := h1 S hf
      rw [hb]
      rw [Nat.zero_add] at hs
      have := Sim.count ok (d.N - L.length) L.length S P C (by omega) hs
      show ((cntF d (d.N - L.length) P C L.length : Nat) : Int) = ((zF d (d.N - L.length) S L.length : Nat) : Int)
      rw [this]
  · rw [if_neg hl, if_neg hl]
    rfl
set_option maxRecDepth 100000 in
set_option maxHeartbeats 4000000 in
theorem countDraws_impl (vf : Value) (nf : Nat) (F : Nat → TeamD) (vp : Value) (gr most : Int) (T : List (List Int)) (vd : Value) (L : List Int) (R : Int) (w : World) (hR : potsP nf F T gr most → R = cdN F T gr most L) (hR0 : ¬ potsP nf F T gr most → R = 0) (hf : TeamRow w vf nf F) (hs : ∀ i, (F i).nm.size ≤ maxLen) (h : RdA tIntSS w [vp] T) (hw : tIntSS.wt T ≤ 1048576) (hd : IntRow w vd L.length (getI L)) :
    Calls Try.prog 13 #[vf, .agg #[vp, .int .i64 gr, .int .i64 most], vd] w fun e w' => e = .returned (.int .i64 R) ∧ Below w.heap.size w w' := by
  obtain ⟨pa, pc, rfl, hpn⟩ := pots_form h
  obtain ⟨da, dc, rfl, hdn, _⟩ := hd.form
  obtain ⟨U, hU⟩ : ∃ U, w.alloc (.cells #[.slice pa (List.length (α := List Int) T) pc, .int .i64 gr, .int .i64 most] 26) = U := ⟨_, rfl⟩
  have bU : Below w.heap.size w U := by rw [← hU]; exact (Below.refl _ _).alloc (Nat.le_refl _) _
  have HS : Hid (PotsAt U w.heap.size pa (List.length (α := List Int) T) pc gr most T) := by rw [← hU]; exact PotsAt.made h
  have HB := Lib.hid bU
  have HD : Hid (IntRow U (.slice da L.length dc) L.length (getI L)) := hd.below bU (Nat.le_refl _)
  have hf1 := hf.below bU (Nat.le_refl _)
  obtain ⟨fa, fc, rfl, hfn, _⟩ := hf.form
  by_cases hp : potsP nf F T gr most
  case neg =>
    obtain rfl : R = 0 := hR0 hp
    have CF := Lib.hid (drawingOf_no (.slice fa nf fc) nf F (.slice pa (List.length (α := List Int) T) pc) gr most T U hp hf1 hs HS.out.2 hw)
    generalize List.length (α := List Int) T = np at *
    generalize L.length = m at *
    have c0 := HS.out.1.2 0 _ rfl
    have c1 := HS.out.1.2 1 _ rfl
    have c2 := HS.out.1.2 2 _ rfl
    clear hp hR hR0 h hd hf hf1 hs hw bU
    go_enter Try.func13, Try.ntmps13
    go_wp2_with fail
    clear hU c0 c1 c2
    refine CF.out.mono ?_
    rintro e w1 ⟨rfl, b⟩
    have HB1 := Lib.hid (HB.out.trans (b.mono HB.out.size))
    clear b CF
    go_wp2
    go_ret
    exact ⟨rfl, HB1.out.alloc HB1.out.size _⟩
  have CF := Lib.hid (drawingOf_yes (.slice fa nf fc) nf F (.slice pa (List.length (α := List Int) T) pc) gr most T U hp hf1 hs HS.out.2 hw)
  have HOK := Lib.hid (drw_ok hp)
  have hRR : R = (cntP (drwD F T gr most) L : Int) := (hR hp).trans (cntP_eq hp L)
  have HRR := Lib.hid hRR
  clear hRR
  generalize drwD F T gr most = d at *
  obtain ⟨m, hm⟩ : ∃ m, L.length = m := ⟨_, rfl⟩
  have HM := Lib.hid hm
  rw [hm] at hdn ⊢
  generalize List.length (α := List Int) T = np at *
  have c0 := HS.out.1.2 0 _ rfl
  have c1 := HS.out.1.2 1 _ rfl
  have c2 := HS.out.1.2 2 _ rfl
  clear hp hR hR0 h hd hf hf1 hs hw bU hm
  go_enter Try.func13, Try.ntmps13
  go_wp2_with fail
  clear hU c0 c1 c2
  refine CF.out.mono ?_
  rintro e w1 ⟨tv, rfl, ht, b⟩
  obtain ⟨ta, tc, rfl⟩ := ht.form
  have HT1 := Lib.hid ht
  have HB1 := Lib.hid (HB.out.trans (b.mono HB.out.size))
  have HD1 : Hid (IntRow w1 (.slice da m dc) m (getI L)) := by
    have h9 := HD.out.below b (Nat.le_refl _)
    rw [HM.out] at h9
    exact h9
  have CA : Hid (∀ wa, Below w1.heap.size w1 wa → Calls Try.prog 44 #[.agg #[.slice ta d.N tc, .int .i64 d.G, .int .i64 d.most], .slice da m dc] wa fun e w' => e = .returned (.int .i64 R) ∧ Below wa.heap.size wa w') := fun wa hb => by
    have h9 := countFrom_impl ta tc d HOK.out (.slice da m dc) L wa (RecRow.below HT1.out hb (Nat.le_refl _))
    rw [HM.out, ← HRR.out] at h9
    exact h9 (HD1.out.below hb (Nat.le_refl _))
  clear b ht CF HS HB HD
  go_wp2_with fail
  refine (CA.out _ ((Below.refl _ _).alloc (Nat.le_refl _) _)).mono ?_
  rintro e w2 ⟨rfl, b⟩
  have HB2 : Hid (Below w.heap.size w w2) := HB1.out.trans ((((Below.refl _ _).alloc (Nat.le_refl _) _).trans (b.mono (by simp))).mono HB1.out.size)
  clear b CA
  go_wp2
  go_ret
  exact ⟨rfl, HB2.out⟩
end Go.Proofs.Ytmhkkdnopcdibaa
set_option linter.unusedVariables false
namespace Go.Proofs.Ytmhkkdnopcdibaa
open Go.RowKit

theorem foldS_app (d : DrwD) : ∀ (L M : List Int) (i : Nat) (S : Nat → Nat), foldS d (L ++ M) i S = (foldS d L i S).bind (fun S' => foldS d M (i + L.length) S')
  | [], M, i, S => rfl
  | x :: L, M, i, S => by
    rw [List.cons_append, foldS_cons, foldS_cons]
    split
    · rw [foldS_app d L M, List.length_cons, show i + 1 + L.length = i + (L.length + 1) by omega]
    · rfl
def vl (V : Nat → Nat) (i : Nat) : List Int := (List.range i).map fun j => (V j : Int)
theorem vl_len (V : Nat → Nat) (i : Nat) : (vl V i).length = i := by simp [vl]
theorem vl_succ (V : Nat → Nat) (i : Nat) : vl V (i + 1) = vl V i ++ [(V i : Int)] := by simp [vl, List.range_succ]
theorem vl_congr {V V' : Nat → Nat} {i : Nat} (h : ∀ j, j < i → V j = V' j) : vl V i = vl V' i := by
  unfold vl
  exact List.map_congr_left fun j hj => by rw [h j (List.mem_range.1 hj)]
theorem vl_get (V : Nat → Nat) {i j : Nat} (hj : j < i) : getI (vl V i) j = (V j : Int) := by
  have h : (vl V i)[j]? = some ((V j : Nat) : Int) := by simp [vl, hj]
  unfold getI
  rw [List.getD_eq_getElem?_getD, h]
  rfl
def PreS (d : DrwD) (L : List Int) (i : Nat) (P : Nat → Nat → Bool) (C : Nat → Nat → Int) : Prop := L.length = i ∧ ∃ S, foldS d L 0 (fun _ => 0) = some S ∧ Sim d i S P C
theorem PreS.nil (d : DrwD) : PreS d [] 0 noP noC := ⟨rfl, _, rfl, Sim.start d⟩
theorem PreS.cnt {d : DrwD} (ok : DrwOk d) {L : List Int} {i : Nat} {P : Nat → Nat → Bool} {C : Nat → Nat → Int} (h : PreS d L i P C) (hi : i ≤ d.N) : cntP d L = cntF d (d.N - i) P C i := by
  obtain ⟨rfl, S, hS, hs⟩ := h
  unfold cntP foldP
  rw [if_pos hi, hS]
  exact Sim.count ok _ _ S P C (by omega) hs
theorem PreS.next {d : DrwD} (ok : DrwOk d) {L : List Int} {i g : Nat} {P : Nat → Nat → Bool} {C : Nat → Nat → Int} (h : PreS d L i P C) (hi : i < d.N) (hg : g < d.G) (hf : fitB d P C i g = true) : PreS d (L ++ [(g : Int)]) (i + 1) (putP d P i g true) (putC d C i g true) := by
  obtain ⟨rfl, S, hS, hs⟩ := h
  have hfs : fitS d S L.length g = true := by rw [hs.fit hg hi]; exact hf
  refine ⟨by simp, nxtSe d S L.length g, ?_, hs.next ok hg hi hfs⟩
  rw [foldS_app, hS]
  show foldS d [(g : Int)] (0 + L.length) S = _
  rw [Nat.zero_add, foldS_cons, Int.toNat_natCast, if_pos ⟨by omega, hfs⟩]
  rfl
theorem PreS.more {d : DrwD} (ok : DrwOk d) {L : List Int} {i g : Nat} {P : Nat → Nat → Bool} {C : Nat → Nat → Int} (h : PreS d L i P C) (hi : i < d.N) (hg : g < d.G) : befS d i P C g + cntP d (L ++ [(g : Int)]) = befS d i P C (g + 1) := by
  rw [befS_succ]
  by_cases hf : fitB d P C i g = true
  · rw [if_pos hf, (h.next ok hi hg hf).cnt ok (by omega)]
  · rw [if_neg hf]
    obtain ⟨rfl, S, hS, hs⟩ := h
    have hfs : fitS d S L.length g = false := by rw [hs.fit hg hi]; simpa using hf
    have h0 : cntP d (L ++ [(g : Int)]) = 0 := by
      unfold cntP foldP
      by_cases hl : (L ++ [(g : Int)]).length ≤ d.N
      · rw [if_pos hl, foldS_app, hS]
        show (match foldS d [(g : Int)] (0 + L.length) S with | some S => _ | none => 0) = 0
        rw [Nat.zero_add, foldS_cons, Int.toNat_natCast, if_neg (fun h9 => by rw [hfs] at h9; exact absurd h9.2 (by decide))]
      · rw [if_neg hl]
    rw [h0]
theorem cntP_small {d : DrwD} (ok : DrwOk d) (L : List Int) : cntP d L ≤ 65536 := by
  unfold cntP foldP
  by_cases hl : L.length ≤ d.N
  · rw [if_pos hl]
    cases hf : foldS d L 0 (fun _ => 0) with
    | none => exact Nat.zero_le _
    | some S =>
      obtain ⟨h1, _⟩ := Sim.fold ok L 0 (fun _ => 0) noP noC (by omega) (Sim.start d)
      obtain ⟨P, C, _, hs⟩ := h1 S hf
      rw [Nat.zero_add] at hs
      show zF d (d.N - L.length) S L.length ≤ _
      rw [Sim.count ok (d.N - L.length) L.length S P C (by omega) hs]
      have h2 := cntF_le d ok.G.2 (d.N - L.length) P C L.length
      have h3 : 4 ^ (d.N - L.length) ≤ 4 ^ 8 := Nat.pow_le_pow_right (by decide) (by have := ok.N; omega)
      have h4 : (4 : Nat) ^ 8 = 65536 := by decide
      omega
  · rw [if_neg hl]
    exact Nat.zero_le _
def NthO (d : DrwD) (A : List Int) (i : Nat) (V : Nat → Nat) (x : Nat) : Prop :=
  ∃ P C, PreS d (vl V i) i P C ∧ x < cntF d (d.N - i) P C i ∧ vl V i ++ atF d (d.N - i) P C i x = A ∧ ∀ j, i ≤ j → V j = 0
def NthI (d : DrwD) (A : List Int) (i : Nat) (V : Nat → Nat) (g y : Nat) : Prop :=
  ∃ P C x, PreS d (vl V i) i P C ∧ x < cntF d (d.N - i) P C i ∧ vl V i ++ atF d (d.N - i) P C i x = A ∧ V i = g ∧ g < d.G ∧ befS d i P C g ≤ x ∧ y = x - befS d i P C g ∧ ∀ j, i < j → V j = 0
theorem NthO.begin {d : DrwD} (ok : DrwOk d) {A : List Int} {i : Nat} {V : Nat → Nat} {x : Nat} (h : NthO d A i V x) : NthI d A i V 0 x := by
  obtain ⟨P, C, h1, h2, h3, h4⟩ := h
  exact ⟨P, C, x, h1, h2, h3, h4 i (Nat.le_refl _), by have := ok.G; omega, Nat.zero_le _, by rw [befS_zero]; rfl, fun j hj => h4 j (by omega)⟩
theorem NthI.next {d : DrwD} (ok : DrwOk d) {A : List Int} {i : Nat} {V : Nat → Nat} {g y : Nat} (h : NthI d A i V g y) (hi : i < d.N) (hle : cntP d (vl V (i + 1)) ≤ y) : NthI d A i (fun j => if j = i then g + 1 else V j) (g + 1) (y - cntP d (vl V (i + 1))) := by
  obtain ⟨P, C, x, h1, h2, h3, h4, h5, h6, h7, h8⟩ := h
  have hm := h1.more ok hi h5
  rw [vl_succ, h4] at hle ⊢
  have hc := cnt_bef (d := d) (P := P) (C := C) hi
  have hv : vl (fun j => if j = i then g + 1 else V j) i = vl V i := vl_congr fun j hj => if_neg (by omega)
  have hg : g + 1 < d.G := by
    by_cases e : g + 1 = d.G
    · rw [hc, ← e] at h2; omega
    · omega
  refine ⟨P, C, x, by rw [hv]; exact h1, h2, by rw [hv]; exact h3, by simp, hg, by omega, by omega, fun j hj => ?_⟩
  show (if j = i then g + 1 else V j) = 0
  rw [if_neg (by omega)]
  exact h8 j hj
theorem NthI.done {d : DrwD} (ok : DrwOk d) {A : List Int} {i : Nat} {V : Nat → Nat} {g y : Nat} (h : NthI d A i V g y) (hi : i < d.N) (hlt : y < cntP d (vl V (i + 1))) : NthO d A (i + 1) V y := by
  obtain ⟨P, C, x, h1, h2, h3, h4, h5, h6, h7, h8⟩ := h
  have hm := h1.more ok hi h5
  rw [vl_succ, h4] at hlt
  have hp : pickG (befS d i P C) x d.G = g := pick_ok (befS_mono d i P C) h5 (by omega) h6
  obtain ⟨g', hg', hp', hf', hb', hx'⟩ := pick_fit (d := d) (P := P) (C := C) (i := i) (f := d.N - (i + 1)) (x := x) (by omega) (by rw [show d.N - (i + 1) + 1 = d.N - i by omega]; exact h2)
  rw [hp] at hp'
  subst hp'
  refine ⟨_, _, by rw [vl_succ, h4]; exact h1.next ok hi h5 hf', by rw [h7]; exact hx', ?_, fun j hj => h8 j (by omega)⟩
  rw [vl_succ, h4, h7, ← h3, atF_step hi hp, List.append_assoc]
  rfl
theorem NthO.last {d : DrwD} {A : List Int} {V : Nat → Nat} {x : Nat} (h : NthO d A d.N V x) : vl V d.N = A := by
  obtain ⟨P, C, h1, h2, h3, h4⟩ := h
  rw [Nat.sub_self] at h3
  rw [← h3]
  show vl V d.N = vl V d.N ++ []
  rw [List.append_nil]
end Go.Proofs.Ytmhkkdnopcdibaa
set_option linter.unusedVariables false
namespace Go.Proofs.Ytmhkkdnopcdibaa
open Go.RowKit

theorem SumI.row {w : World} {sb N : Nat} {V : Nat → Nat} (h : SumI w sb N V) {k : Nat} (h0 : 0 < k) (hk : k ≤ N) (hN : N ≤ 8) : IntRow w (.slice (some ⟨sb, 0, none⟩) k N) k (getI (vl V k)) :=
  .inr ⟨sb, 0, N, rfl, h0, by omega, fun i hi => by rw [vl_get V hi, Nat.zero_add]; exact (h.2 i (by omega)).1, hk⟩
theorem SumI.own8 {w : World} {sb G base : Nat} {S : Nat → Nat} (h : SumI w sb G S) (hG : G ≤ 8) (hb : base ≤ sb) : w.ownsRow base 3 1 (.slice (some ⟨sb, 0, none⟩) G G) G ((List.range G).map fun g => Value.int .i64 (S g : Nat)) := by
  obtain ⟨c, h1, h2, h3⟩ := h.1
  refine ⟨by simp, .inr ⟨sb, G, c, rfl, hb, h1, Nat.le_refl _, by unfold maxLen; omega, by rw [h2, Nat.mul_one], ?_⟩⟩
  rw [Nat.mul_one]
  apply List.ext_getElem?
  intro i
  rw [List.getElem?_take, List.getElem?_map]
  by_cases hi : i < G
  · rw [if_pos hi, List.getElem?_range hi]
    have h4 := h3 i hi
    simpa using h4
  · rw [if_neg hi, List.getElem?_eq_none (by simpa using hi)]
    rfl
def cellN (w : World) (a : Addr) : Nat := match w.cell? a with | some v => (RowKit.intOf v).toNat | none => 0
set_option maxRecDepth 100000 in
set_option maxHeartbeats 8000000 in
theorem nthDraw_impl (vf : Value) (nf : Nat) (F : Nat → TeamD) (vp : Value) (gr most : Int) (T : List (List Int)) (c x : Int) (w : World) (hc : potsP nf F T gr most → c = cdN F T gr most []) (hc0 : ¬ potsP nf F T gr most → c = 0) (hf : TeamRow w vf nf F) (hs : ∀ i, (F i).nm.size ≤ maxLen) (h : RdA tIntSS w [vp] T) (hw : tIntSS.wt T ≤ 1048576) :
    Calls Try.prog 15 #[vf, .agg #[vp, .int .i64 gr, .int .i64 most], .int .i64 x] w (NthM w (nthL F T gr most c x)) := by
  obtain ⟨pa, pc, rfl, hpn⟩ := pots_form h
  obtain ⟨U, hU⟩ : ∃ U, w.alloc (.cells #[.slice pa (List.length (α := List Int) T) pc, .int .i64 gr, .int .i64 most] 26) = U := ⟨_, rfl⟩
  have bU : Below w.heap.size w U := by rw [← hU]; exact (Below.refl _ _).alloc (Nat.le_refl _) _
  have HS : Hid (PotsAt U w.heap.size pa (List.length (α := List Int) T) pc gr most T) := by rw [← hU]; exact PotsAt.made h
  have HB := Lib.hid bU
  have hf1 := hf.below bU (Nat.le_refl _)
  obtain ⟨fa, fc, rfl, hfn, _⟩ := hf.form
  by_cases hp : potsP nf F T gr most
  case neg =>
    obtain rfl : c = 0 := hc0 hp
    have CF := Lib.hid (drawingOf_no (.slice fa nf fc) nf F (.slice pa (List.length (α := List Int) T) pc) gr most T U hp hf1 hs HS.out.2 hw)
    have hnl : nthL F T gr most 0 x = none := if_neg (by omega)
    rw [hnl]
    generalize List.length (α := List Int) T = np at *
    have c0 := HS.out.1.2 0 _ rfl
    have c1 := HS.out.1.2 1 _ rfl
    have c2 := HS.out.1.2 2 _ rfl
    clear hp hc hc0 h hf hf1 hs hw bU hnl
    go_enter Try.func15, Try.ntmps15
    go_wp2_with fail
    clear hU c0 c1 c2
    refine CF.out.mono ?_
    rintro e w1 ⟨rfl, b⟩
    have HB1 := Lib.hid (HB.out.trans (b.mono HB.out.size))
    clear b CF
    go_wp2
    refine bodyPost_ret (v := .tuple #[.slice none 0 0, .bool false]) (by simp [results, Try.results15, go_sem]) rfl ?_
    exact ⟨rfl, HB1.out.alloc HB1.out.size _⟩
  have CF := Lib.hid (drawingOf_yes (.slice fa nf fc) nf F (.slice pa (List.length (α := List Int) T) pc) gr most T U hp hf1 hs HS.out.2 hw)
  have HOK := Lib.hid (drw_ok hp)
  have hRR : c = (cntP (drwD F T gr most) [] : Int) := (hc hp).trans (cntP_eq hp [])
  have HRR := Lib.hid hRR
  have hpos := pots_ne hp
  have HNL : Hid (nthL F T gr most c x = if 0 ≤ x ∧ x ≤ c - 1 then some (atF (drwD F T gr most) (drwD F T gr most).N noP noC 0 x.toNat) else none) := rfl
  generalize nthL F T gr most c x = NL at *
  clear hRR
  generalize drwD F T gr most = d at *
  generalize List.length (α := List Int) T = np at *
  have c0 := HS.out.1.2 0 _ rfl
  have c1 := HS.out.1.2 1 _ rfl
  have c2 := HS.out.1.2 2 _ rfl
  clear hp hc hc0 h hf hf1 hs hw bU
  go_enter Try.func15, Try.ntmps15
  go_wp2_with fail
  clear hU c0 c1 c2
  refine CF.out.mono ?_
  rintro e w1 ⟨tv, rfl, ht, b⟩
  obtain ⟨ta, tc, rfl⟩ := ht.form
  have HB1 := Lib.hid (HB.out.trans (b.mono HB.out.size))
  obtain ⟨V, hV⟩ : ∃ V, w1.alloc (.cells #[.slice ta d.N tc, .int .i64 d.G, .int .i64 d.most] 61) = V := ⟨_, rfl⟩
  have bV : Below w1.heap.size w1 V := by rw [← hV]; exact (Below.refl _ _).alloc (Nat.le_refl _) _
  have HX : Hid (BoxN V w1.heap.size [.slice ta d.N tc, .int .i64 d.G, .int .i64 d.most]) := by rw [← hV]; exact BoxN.made (Below.refl _ _) rfl
  have HBV : Hid (Below w.heap.size w V) := HB1.out.trans (bV.mono HB1.out.size)
  have HT : Hid (TurnsAt V (.slice ta d.N tc) d) := RecRow.below ht bV (Nat.le_refl _)
  have CA : Hid (∀ (wa : World) (vp : Value) (L : List Int), Below V.heap.size V wa → IntRow wa vp L.length (getI L) → Calls Try.prog 44 #[.agg #[.slice ta d.N tc, .int .i64 d.G, .int .i64 d.most], vp] wa fun e w' => e = .returned (.int .i64 (cntP d L)) ∧ Below wa.heap.size wa w') := fun wa vp L hb hv =>
    countFrom_impl ta tc d HOK.out vp L wa (RecRow.below HT.out hb (Nat.le_refl _)) hv
  have HWE := Lib.hid hV
  clear b ht CF HS HB hV bV HB1 HT
  go_upto_region 2 with fail
  rw [HWE.out]
  clear HWE
  have hXV : w1.heap.size < V.heap.size := HX.out.1
  have hwV := HBV.out.size
  generalize w1.heap.size = X at *
  have c0 := HX.out.2 0 _ rfl
  have c1 := HX.out.2 1 _ rfl
  have c2 := HX.out.2 2 _ rfl
  by_cases hx0 : x < 0
  · have g0 : decide (x < 0) = true := decide_eq_true hx0
    have hnn : Hid (NL = none) := by show NL = none; rw [HNL.out, if_neg (by omega)]
    clear HNL HOK
    go_wp2
    refine bodyPost_ret (v := .tuple #[.slice none 0 0, .bool false]) (by simp [results, Try.results15, go_sem]) rfl ?_
    rw [hnn.out]
    exact ⟨rfl, HBV.out⟩
  have g0 : decide (x < 0) = false := decide_eq_false hx0
  have C0 := Lib.hid (CA.out V (.slice none 0 0) [] (Below.refl _ _) (.inl ⟨none, 0, rfl, rfl⟩))
  rw [← HRR.out] at C0
  go_wp2_with fail
  refine C0.out.mono ?_
  rintro e w2 ⟨rfl, b⟩
  have HXVV := HX
  have HBVK := HBV
  have HX2 := Lib.hid (HX.out.below b)
  have HBV2 := Lib.hid (HBV.out.trans (b.mono HBV.out.size))
  have HV2 := Lib.hid b
  clear b C0 c0 c1 c2 HX HBV
  by_cases hxc : c ≤ x
  · have g1 : decide (c ≤ x) = true := decide_eq_true hxc
    have hnn : Hid (NL = none) := by show NL = none; rw [HNL.out, if_neg (by omega)]
    clear HNL HOK
    go_wp2
    refine bodyPost_ret (v := .tuple #[.slice none 0 0, .bool false]) (by simp [results, Try.results15, go_sem]) rfl ?_
    rw [hnn.out]
    exact ⟨rfl, HBV2.out⟩
  have g1 : decide (c ≤ x) = false := decide_eq_false hxc
  obtain ⟨xn, rfl⟩ : ∃ xn : Nat, x = xn := ⟨x.toNat, by omega⟩
  obtain ⟨A, hA⟩ : ∃ A, atF d d.N noP noC 0 xn = A := ⟨_, rfl⟩
  have HNA : Hid (NL = some A) := by show NL = some A; rw [HNL.out, if_pos (by omega), Int.toNat_natCast, hA]
  have HO0 : Hid (NthO d A 0 (fun _ => 0) xn) := by
    refine ⟨noP, noC, PreS.nil d, ?_, hA, fun _ _ => rfl⟩
    have h1 := (PreS.nil d).cnt HOK.out (Nat.zero_le _)
    have h2 := HRR.out
    rw [h1] at h2
    omega
  have hN8 := HOK.out.N
  have HYB : Hid (∀ (y2 : Nat) {i : Nat} {Vg : Nat → Nat} {g : Nat}, Hid (NthI d A i Vg g y2) → y2 ≤ 9223372036854775807) := fun y2 i Vg g h => by
    obtain ⟨P, C, x, _, h2, _, _, _, _, h7, _⟩ := h.out
    have h3 := cntF_le d HOK.out.G.2 (d.N - i) P C i
    have h4 : 4 ^ (d.N - i) ≤ 4 ^ 8 := Nat.pow_le_pow_right (by decide) (by omega)
    have h5 : (4 : Nat) ^ 8 = 65536 := by decide
    omega
  have mk : ∀ w, (Instr.makeSlice 31 (.int .i64 (d.N : Int)) (.int .i64 (d.N : Int))).run Try.prog w = .ok (.slice (some ⟨w.heap.size, 0, none⟩) d.N d.N) (w.alloc (.cells (madeCells #[.int .i64 0] d.N) 3)) := fun w => run_make_row' _ _ _ 8 Try.underlying31 Try.infoI rfl .i64 .i64 d.N (by omega) (by omega) w
  obtain ⟨W, hW⟩ : ∃ W, w2.alloc (.cells (madeCells #[.int .i64 0] d.N) 3) = W := ⟨_, rfl⟩
  have bW : Below w2.heap.size w2 W := by rw [← hW]; exact (Below.refl _ _).alloc (Nat.le_refl _) _
  have HSI : Hid (SumI W w2.heap.size d.N (fun _ => 0)) := by rw [← hW]; exact SumI.of (World.rowIs_made w2 (.int .i64 0) d.N 3)
  have HVW : Hid (Below V.heap.size V W) := HV2.out.trans (bW.mono HV2.out.size)
  have hVY : V.heap.size ≤ w2.heap.size := HV2.out.size
  have HWE := Lib.hid hW
  have c0 := HX2.out.2 0 _ rfl
  have c1 := HX2.out.2 1 _ rfl
  have c2 := HX2.out.2 2 _ rfl
  have HXV : Hid (∀ wa, Below V.heap.size V wa → BoxN wa X [.slice ta d.N tc, .int .i64 d.G, .int .i64 d.most]) := fun wa hb => HXVV.out.below hb
  clear bW hW HNL hA HX2 HV2 HRR
  go_upto_region 5 with fail
  rw [HWE.out]
  clear HWE c0 c1 c2 mk
  generalize w2.heap.size = Y at *
  go_wp2_with fail
  go_loopw [2, 38] (fun s2 iv wr => ∃ (i y : Nat) (Vf : Nat → Nat), i ≤ d.N ∧ s2 = .int .i64 y ∧ iv = .int .i64 i ∧ Hid (NthO d A i Vf y) ∧ Hid (SumI wr Y d.N Vf) ∧ Hid (Below V.heap.size V wr)) (fun _ iv _ => d.N - (RowKit.intOf iv).toNat)
  case atStart => exact ⟨0, xn, _, Nat.zero_le _, rfl, rfl, HO0, HSI, HVW⟩
  case round =>
    clear HO0 HSI HVW
    obtain ⟨i, y, Vf, hi9, rfl, rfl, HO, HSI, HVW⟩ := hrel
    by_cases hlt : i < d.N
    · have hj : (i : Int) < (d.N : Int) := by omega
      have hj2 : (i : Int) + 1 ≤ (d.N : Int) := by omega
      have hx := HXV.out wr HVW.out
      have c0 := hx.2 0 _ rfl
      have c1 := hx.2 1 _ rfl
      have c2 := hx.2 2 _ rfl
      have hrow := HSI.out.row (k := i + 1) (by omega) (by omega) hN8
      have C1 := CA.out wr (.slice (some ⟨Y, 0, none⟩) (i + 1) d.N) (vl Vf (i + 1)) HVW.out (by rw [vl_len]; exact hrow)
      obtain ⟨n, hn⟩ : ∃ n, cntP d (vl Vf (i + 1)) = n := ⟨_, rfl⟩
      rw [hn] at C1
      have HC1 := Lib.hid C1
      have HNE := Lib.hid hn
      clear hn C1 hrow hx
      go_wp2_with fail
      refine HC1.out.mono ?_
      rintro e w3 ⟨rfl, b⟩
      have HI0 : Hid (NthI d A i Vf 0 y) := HO.out.begin HOK.out
      have HS3 := Lib.hid (HSI.out.below b)
      have HV3 : Hid (Below V.heap.size V w3) := HVW.out.trans (b.mono HVW.out.size)
      rw [← HNE.out]
      clear b c0 c1 c2 HO HSI HVW HC1 HNE
      go_wp2_with fail
      go_loopw [2, 13] (fun s2 s13 wr => ∃ (g y n : Nat) (Vg : Nat → Nat), s2 = .int .i64 y ∧ s13 = .int .i64 n ∧ Hid (cntP d (vl Vg (i + 1)) = n) ∧ Hid (NthI d A i Vg g y) ∧ Hid (SumI wr Y d.N Vg) ∧ Hid (Below V.heap.size V wr)) (fun _ _ wr => d.G - cellN wr ⟨Y, i, none⟩)
      case atStart => exact ⟨0, y, _, Vf, rfl, rfl, rfl, HI0, HS3, HV3⟩
      case round =>
        clear HI0 HS3 HV3
        obtain ⟨g, y2, n2, Vg, rfl, rfl, HCN, HI, HSI, HVW⟩ := hrel
        by_cases hle : n2 ≤ y2
        · have g2 : decide ((n2 : Int) ≤ (y2 : Int)) = true := decide_eq_true (by omega)
          have g3 : decide (n2 ≤ y2) = true := decide_eq_true hle
          have hIn := HI.out.next HOK.out hlt (by rw [HCN.out]; exact hle)
          rw [HCN.out] at hIn
          have hVi : Vg i = g := by obtain ⟨_, _, _, _, _, _, h, _⟩ := HI.out; exact h
          have hgG : g < d.G := by obtain ⟨_, _, _, _, _, _, _, h, _⟩ := HI.out; exact h
          have hG4 := HOK.out.G
          have k0 := (HSI.out.2 i hlt).1
          have f0 := (HSI.out.2 i hlt).2
          rw [hVi] at k0
          have hcn : cellN wr ⟨Y, i, none⟩ = g := by simp [cellN, k0, RowKit.intOf]
          obtain ⟨wS, hwS⟩ : ∃ wS, wr.setCell ⟨Y, i, none⟩ (.int .i64 ((g : Int) + 1)) = wS := ⟨_, rfl⟩
          have HSS : Hid (SumI wS Y d.N (fun a => if a = i then g + 1 else Vg a)) := by rw [← hwS]; exact HSI.out.set (z := g + 1) hlt
          have HVS : Hid (Below V.heap.size V wS) := by rw [← hwS]; exact HVW.out.setCell hVY _
          have hx := HXV.out wS HVS.out
          have d0 := HXV.out wr HVW.out
          have hrow := HSS.out.row (k := i + 1) (by omega) (by omega) hN8
          have C1 := CA.out wS (.slice (some ⟨Y, 0, none⟩) (i + 1) d.N) (vl (fun a => if a = i then g + 1 else Vg a) (i + 1)) HVS.out (by rw [vl_len]; exact hrow)
          have HIn := Lib.hid hIn
          clear hIn
          generalize (fun a => if a = i then g + 1 else Vg a) = Vh at *
          obtain ⟨n3, hn3⟩ : ∃ n3, cntP d (vl Vh (i + 1)) = n3 := ⟨_, rfl⟩
          rw [hn3] at C1
          have HC1 := Lib.hid C1
          have HN3 := Lib.hid hn3
          have HWE := Lib.hid hwS
          have c0 := hx.2 0 _ rfl
          have c1 := hx.2 1 _ rfl
          have c2 := hx.2 2 _ rfl
          have hYi : (i : Int) < (i : Int) + 1 := by omega
          have hyc : y2 ≤ 9223372036854775807 := HYB.out y2 HI
          have hsub : IntKind.i64.wrap ((y2 : Int) - (n2 : Int)) = ((y2 - n2 : Nat) : Int) := by rw [IntWalk.i64_in _ (by constructor <;> omega)]; omega
          clear hn3 C1 hwS hrow hx d0 hVi HI HSI HVW HCN
          go_upto_region 11 with fail
          rw [HWE.out]
          go_wp2_with fail
          refine HC1.out.mono ?_
          rintro e w5 ⟨rfl, b⟩
          have HS5 := Lib.hid (HSS.out.below b)
          have HV5 : Hid (Below V.heap.size V w5) := HVS.out.trans (b.mono HVS.out.size)
          have hc5 : cellN w5 ⟨Y, i, none⟩ = g + 1 := by
            have hV5 : Vh i = g + 1 := by obtain ⟨_, _, _, _, _, _, h, _⟩ := HIn.out; exact h
            have k5 := (HS5.out.2 i hlt).1
            rw [hV5] at k5
            simp [cellN, k5, RowKit.intOf]
          have HME : Hid (d.G - cellN w5 ⟨Y, i, none⟩ < d.G - cellN wr ⟨Y, i, none⟩) := by show _ < _; rw [hc5, hcn]; omega
          clear b HSS HVS HC1 HWE c0 c1 c2 k0 f0 hc5 hcn
          go_wp2
          go_roundw
          case rel => exact ⟨g + 1, y2 - n2, n3, Vh, by first | rfl | go_num, rfl, HN3, HIn, HS5, HV5⟩
          case measure => exact HME.out
        · have g2 : decide ((n2 : Int) ≤ (y2 : Int)) = false := decide_eq_false (by omega)
          have g3 : decide (n2 ≤ y2) = false := decide_eq_false hle
          have HON : Hid (NthO d A (i + 1) Vg y2) := HI.out.done HOK.out hlt (by rw [HCN.out]; omega)
          clear HI HCN
          go_wp2
          go_roundw
          case rel => exact ⟨i + 1, y2, Vg, by omega, rfl, by go_num, HON, HSI, HVW⟩
          case measure => simp [RowKit.intOf]; omega
    · have hie : i = d.N := by omega
      subst hie
      have hAA := HO.out.last
      have hown := HSI.out.own8 (base := w.heap.size) hN8 (by omega)
      have HAL : Hid (A.length = d.N) := by show _ = _; rw [← hAA, vl_len]
      have HOW : Hid (wr.ownsRow w.heap.size 3 1 (.slice (some ⟨Y, 0, none⟩) d.N d.N) d.N (A.map (Value.int .i64))) := by
        rw [← hAA]
        unfold vl
        rw [List.map_map]
        exact hown
      have HBF : Hid (Below w.heap.size w wr) := HBVK.out.trans (HVW.out.mono hwV)
      clear hAA hown HO HSI HVW
      go_wp2
      refine bodyPost_ret (v := .tuple #[.slice (some ⟨Y, 0, none⟩) d.N d.N, .bool true]) (by simp [results, Try.results15, go_sem]) rfl ?_
      rw [HNA.out]
      exact ⟨_, rfl, by rw [HAL.out]; exact HOW.out, HBF.out⟩
end Go.Proofs.Ytmhkkdnopcdibaa
