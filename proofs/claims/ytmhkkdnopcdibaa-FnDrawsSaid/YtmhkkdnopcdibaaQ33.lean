/-
  Packed: DrwImplL.
-/
import Derived.Test.YtmhkkdnopcdibaaQ32
set_option linter.unusedVariables false
namespace Go.Proofs.Ytmhkkdnopcdibaa
open Go.RowKit Go.Maps

def oneS (S : Nat → Nat) : Nat := 1
def SprM (w : World) (B b1 b2 k : Nat) (d : DrwD) (i : Nat) (L : List ((Nat → Nat) × Nat)) (e : Ending) (w' : World) : Prop :=
  e = .returned (.tuple #[]) ∧ ∃ T, TabAt w' b2 (k + 1) T ∧ TabAt w' b1 (k + 2) [] ∧ (∀ f, i + 1 + f = d.N → sumL (fun S => zF d f S (i + 1)) T = sumL (fun S => zF d (f + 1) S i) L) ∧ sumL oneS T ≤ 4 * sumL oneS L ∧ Touch B (B + 2) w w'
theorem cnt_one (L : List ((Nat → Nat) × Nat)) (kl : Lit) : cntL L sk kl ≤ sumL oneS L := cnt_le L kl
theorem sum_take {g : (Nat → Nat) → Nat} {Ss : List (Nat → Nat)} {j : Nat} (hj : j < Ss.length) : ((Ss.take (j + 1)).map g).sum = ((Ss.take j).map g).sum + g (Ss.getD j fun _ => 0) := by
  rw [List.take_add_one, List.map_append, List.sum_append, List.getElem?_eq_getElem hj, List.getD_eq_getElem?_getD, List.getElem?_eq_getElem hj]
  simp
structure SprI (w wr : World) (B b1 b2 r k : Nat) (d : DrwD) (i n X : Nat) (L T : List ((Nat → Nat) × Nat)) (Ss : List (Nat → Nat)) (v : Value) (left : Lit → Bool) (cnt j : Nat) (T' : List ((Nat → Nat) × Nat)) : Prop where
  rg : RngAt wr b1 r k L left cnt
  tab : TabAt wr b2 (k + 1) T'
  one : sumL oneS T' = sumL oneS T + n * j
  all : ∀ f, i + 1 + f = d.N → sumL (fun S => zF d f S (i + 1)) T' = sumL (fun S => zF d f S (i + 1)) T + n * ((Ss.take j).map fun S => zF d f S (i + 1)).sum
  own : wr.ownsRow X 114 28 v Ss.length (seatsR Ss)
  t : Touch B (B + 2) w wr
  z : X ≤ wr.heap.size
structure SprO (w wr : World) (B b1 b2 r k : Nat) (d : DrwD) (i : Nat) (L : List ((Nat → Nat) × Nat)) (left : Lit → Bool) (cnt : Nat) (T : List ((Nat → Nat) × Nat)) : Prop where
  rg : RngAt wr b1 r k L left cnt
  tab : TabAt wr b2 (k + 1) T
  one : sumL oneS T + 4 * restL oneS left L ≤ 4 * sumL oneS L
  all : ∀ f, i + 1 + f = d.N → sumL (fun S => zF d f S (i + 1)) T + restL (fun S => zF d (f + 1) S i) left L = sumL (fun S => zF d (f + 1) S i) L
  t : Touch B (B + 2) w wr
set_option maxRecDepth 100000 in
set_option maxHeartbeats 8000000 in
theorem spread_impl (ta : Option Addr) (tn tc : Nat) (d : DrwD) (ok : DrwOk d) (i : Nat) (hiN : i < d.N) (k : Nat) (hk : k ≤ 80) (B b1 b2 p q : Nat) (hb : (b1 = B ∧ b2 = B + 1) ∨ (b1 = B + 1 ∧ b2 = B)) (hpB : p < B) (hqB : B + 2 ≤ q) (L : List ((Nat → Nat) × Nat)) (w : World)
    (h1 : TabAt w b1 k L) (h2 : TabAt w b2 (k + 1) []) (hp : BoxN w p [.slice ta tn tc, .int .i64 d.G, .int .i64 d.most]) (hq : BoxN w q [.int .i64 (d.cl i), .bool (epB d i), .bool (ecB d i)]) (hL : 4 * sumL oneS L < 1000000000) :
    Calls Try.prog 78 #[.map (some b1), .map (some b2), .func (.func 79) #[] #[.pointer (some ⟨p, 0, none⟩), .pointer (some ⟨q, 0, none⟩)]] w (SprM w B b1 b2 k d i L) := by
  have HT1 := Lib.hid h1
  have HT2 := Lib.hid h2
  have hz1 := h1.lt
  have hz2 := h2.lt
  have HLP := Lib.hid h1.2
  have CF : Hid (∀ (S : Nat → Nat) (wa : World), SmallS S k → Touch B (B + 2) w wa → Calls Try.prog 79 #[.agg (seatC S), .pointer (some ⟨p, 0, none⟩), .pointer (some ⟨q, 0, none⟩)] wa (FolM wa d S i k)) :=
    fun S wa hs ht => folC_impl ta tn tc d ok i hiN k (by omega) S p q wa hs (hp.touch ht (.inl hpB)) (hq.touch ht (.inr hqB))
  have HZC : Hid (∀ (f : Nat) (S S' : Nat → Nat), i + f = d.N → (∀ j, j < 28 → S j = S' j) → zF d f S i = zF d f S' i) := fun f S S' hf h => zF_cells ok hf h
  clear h1 h2 hp hq ok
  have hne : b1 ≠ b2 := by omega
  have hB1 : B ≤ b1 ∧ b1 < B + 2 := by omega
  have hB2 : B ≤ b2 ∧ b2 < B + 2 := by omega
  have HL := Lib.hid hL
  clear hb hL
  go_enter Try.func78, Try.ntmps78
  go_wp2_with (at_range; refine wpList_seatRange rfl (.tmp 10) rfl b1 k L rfl HT1.out (by omega) ?_; intro w2 left0 cnt0 hla hr hg2)
  go_frame
  have HO0 : Hid (SprO w w2 B b1 b2 w.heap.size k d i L left0 cnt0 []) := ⟨hr, HT2.out.grown hg2 (by simp), by rw [rest_all oneS hla]; simp [sumL], fun f hf => by rw [rest_all _ hla]; simp [sumL], (Touch.refl _ _ _).grownR hg2 (fun q h => by cases h)⟩
  clear hla hr hg2 HT1 HT2
  have hrw : w.heap.size = w.heap.size := rfl
  obtain ⟨r, hr0⟩ : ∃ r, w.heap.size = r := ⟨_, rfl⟩
  rw [hr0] at HO0 hz1 hz2 ⊢
  clear hrw
  have HR0 := Lib.hid hr0
  clear hr0
  go_loopw [] (fun wr => ∃ (left : Lit → Bool) (cnt : Nat) (T : List ((Nat → Nat) × Nat)), Hid (SprO w wr B b1 b2 r k d i L left cnt T)) (fun wr => wr.rangeLeft b1 r)
  case atStart => exact ⟨_, _, _, HO0⟩
  case round =>
    clear HO0
    obtain ⟨left, cnt, T, HO⟩ := hrel
    go_wp2_with (at_next; refine wpList_seatNext rfl (.tmp 11) rfl b1 r k L left cnt rfl HO.out.rg (by omega) ?_ ?_)
    · intro hno
      have HT := Lib.hid HO.out.t
      have HTB := Lib.hid HO.out.tab
      have HR := Lib.hid HO.out.rg
      have HON : Hid (sumL oneS T ≤ 4 * sumL oneS L) := by have := HO.out.one; show _ ≤ _; omega
      have HAL : Hid (∀ f, i + 1 + f = d.N → sumL (fun S => zF d f S (i + 1)) T = sumL (fun S => zF d (f + 1) S i) L) := fun f hf => by have := HO.out.all f hf; rw [rest_none _ hno] at this; omega
      clear HO hno CF HZC HLP HL
      go_wp2_with (refine wpList_seatClear rfl (.tmp 33) rfl b1 r k (k + 2) L left cnt rfl HR.out ?_; intro w3 ht3 hg3)
      refine bodyPost_end (results_none rfl _ _ _) rfl ?_
      exact ⟨rfl, T, HTB.out.grown hg3.grown (by simp only [ne_eq, Option.some.injEq]; omega), ht3, HAL.out, HON.out, HT.out.grownR hg3.grown (fun q h => by cases h; omega)⟩
    · intro S w4 cnt' hsS hpos hlS hrg4 hlt hg4 hen
      obtain ⟨n, hn⟩ : ∃ n, cntL L sk (sk S) = n := ⟨_, rfl⟩
      rw [hn] at hpos hen
      have HR1 : Hid (restL oneS left L = n + restL oneS (fun z => left z && !z.sameKey (sk S)) L) := by
        have := rest_strike oneS (L := L) hlS (small127 hsS (by omega)) (fun p hp => small127 (HLP.out p hp).2 (by omega)) (fun _ _ _ => rfl)
        rw [hn] at this
        show _ = _
        rw [this]
        simp [oneS]
      have HRZ : Hid (∀ f, i + 1 + f = d.N → restL (fun S => zF d (f + 1) S i) left L = n * zF d (f + 1) S i + restL (fun S => zF d (f + 1) S i) (fun z => left z && !z.sameKey (sk S)) L) := fun f hf => by
        have := rest_strike (fun S => zF d (f + 1) S i) (L := L) hlS (small127 hsS (by omega)) (fun p hp => small127 (HLP.out p hp).2 (by omega)) (fun p hp h => HZC.out (f + 1) p.1 S (by omega) h)
        rw [hn] at this
        exact this
      have HNN : Hid (sumL oneS T + 4 * n + 4 * restL oneS (fun z => left z && !z.sameKey (sk S)) L ≤ 4 * sumL oneS L) := by
        have h1 := HO.out.one
        have h2 := HR1.out
        show _ ≤ _
        omega
      have HNZ : Hid (∀ f, i + 1 + f = d.N → sumL (fun S => zF d f S (i + 1)) T + n * zF d (f + 1) S i + restL (fun S => zF d (f + 1) S i) (fun z => left z && !z.sameKey (sk S)) L = sumL (fun S => zF d (f + 1) S i) L) := fun f hf => by
        have h1 := HO.out.all f hf
        have h2 := HRZ.out f hf
        omega
      have HT4 : Hid (Touch B (B + 2) w w4) := HO.out.t.grownR hg4 (fun q h => by cases h; exact .inl (Nat.le_of_eq HR0.out))
      have HTB4 : Hid (TabAt w4 b2 (k + 1) T) := HO.out.tab.grown hg4 (by simp only [ne_eq, Option.some.injEq]; omega)
      have HCN : Hid (cnt' < wr.rangeLeft b1 r) := by show _ < _; rw [HO.out.rg.left_eq]; exact hlt
      have HRG4 := Lib.hid hrg4
      have hr4 := hrg4.lt
      clear HO HR1 HRZ hlt hg4 hrg4 hlS hn
      generalize (fun z => left z && !z.sameKey (sk S)) = left' at *
      have CF1 : Hid (∀ wa, Touch B (B + 2) w wa → Calls Try.prog 79 #[.agg (seatC S), .pointer (some ⟨p, 0, none⟩), .pointer (some ⟨q, 0, none⟩)] wa (FolM wa d S i k)) := fun wa h => CF.out S wa hsS h
      have hSA := seatC_is S
      generalize seatC S = cs at *
      have HSZ : Hid ((Try.prog.info? 114).map (·.size) = some cs.size) := by show _ = _; rw [hSA.1]; exact seat_info
      have HSE : Hid (zeroSeat.size = cs.size) := by show _ = _; rw [hSA.1]; rfl
      have HAL : Hid (cs.all (·.oneCell') = true) := hSA.all
      have HZ : Hid (Whole (w4.alloc (.cells zeroSeat 114)) w4.heap.size zeroSeat 114) := Whole.made _ _ _
      obtain ⟨w5, hw5⟩ : ∃ w5, (w4.alloc (.cells zeroSeat 114)).setRow w4.heap.size cs = w5 := ⟨_, rfl⟩
      have b5 : Below w4.heap.size w4 w5 := by rw [← hw5]; exact below_setRow ((Below.refl _ _).alloc (Nat.le_refl _) _) (Nat.le_refl _)
      have HW5 : Hid (Whole w5 w4.heap.size cs 114) := by rw [← hw5]; exact HZ.out.setRow
      have g5 := below_grown b5 (Nat.le_refl _)
      have HT5 : Hid (Touch B (B + 2) w w5) := HT4.out.trans (Touch.of_below b5)
      have HTB5 : Hid (TabAt w5 b2 (k + 1) T) := HTB4.out.grown g5 (by simp)
      have HRG5 : Hid (RngAt w5 b1 r k L left' cnt') := HRG4.out.grown g5 (by simp) (by simp)
      simp only [zeroSeat] at hw5
      have HWE := Lib.hid hw5
      have CF5 := Lib.hid (CF1.out w5 HT5.out)
      have hz5 := b5.size
      clear hw5 b5 g5 hSA HT4 HTB4 HRG4 CF1
      go_upto_region 3 with (refine wpList_store_row rfl 114 (.tmp 6) (.tmp 15) rfl w4.heap.size cs rfl rfl 114 zeroSeat HZ.out HSZ.out HSE.out HAL.out ?_)
      rw [HWE.out]
      clear HWE HZ HSE hen
      generalize w4.heap.size = D at *
      go_wp2_with (refine wpList_load_row rfl 114 (.tmp 6) rfl D rfl 114 cs (0, 0) _ HW5.out Try.underlying114 rfl HSZ.out ?_)
      refine CF5.out.mono ?_
      rintro e w6 ⟨v, Ss, rfl, ho, hl4, hsm, hsum, bb⟩
      have g6 := below_grown bb (Nat.le_refl _)
      have HI0 : Hid (SprI w w6 B b1 b2 r k d i n w5.heap.size L T Ss v left' cnt' 0 T) := ⟨HRG5.out.grown g6 (by simp) (by simp), HTB5.out.grown g6 (by simp), by simp, fun f hf => by simp, ho, HT5.out.trans (Touch.of_below bb), bb.size⟩
      obtain ⟨oa, oc, rfl⟩ := owns_form ho
      have HSM := Lib.hid hsm
      have HSU := Lib.hid hsum
      have hX : r < w5.heap.size := by omega
      clear ho hsm hsum bb g6 CF5 HRG5 HTB5 HT5 HW5 HSZ HAL hz5
      generalize w5.heap.size = X at *
      go_wp2
      go_loopw [21] (fun iv wr2 => ∃ (j : Nat) (T' : List ((Nat → Nat) × Nat)), j ≤ Ss.length ∧ iv = .int .i64 j ∧ Hid (SprI w wr2 B b1 b2 r k d i n X L T Ss (.slice oa Ss.length oc) left' cnt' j T')) (fun iv _ => Ss.length - (RowKit.intOf iv).toNat)
      case atStart => exact ⟨0, T, Nat.zero_le _, rfl, HI0⟩
      case round =>
        clear HI0
        obtain ⟨j, T', hj9, rfl, HI⟩ := hrel
        by_cases hlt : j < Ss.length
        · have hj1 : (j : Int) < (Ss.length : Int) := by omega
          obtain ⟨g, oc', hv, hoc, hgX, hgl, hmid⟩ := seats_mid HI.out.own j hlt
          simp only [Value.slice.injEq, true_and] at hv
          obtain ⟨hoa, hoc2⟩ := hv
          subst hoa hoc2
          have hmem : (Ss.getD j fun _ => 0) ∈ Ss := by rw [List.getD_eq_getElem?_getD, List.getElem?_eq_getElem hlt]; exact List.getElem_mem _
          have hsm9 := HSM.out _ hmem
          have HSTK : Hid (∀ g : (Nat → Nat) → Nat, ((Ss.take (j + 1)).map g).sum = ((Ss.take j).map g).sum + g (Ss.getD j fun _ => 0)) := fun g => sum_take hlt
          generalize (Ss.getD j fun _ => 0) = S9 at *
          have HMID := Lib.hid hmid
          have hn4 : n * (j + 1) ≤ n * 4 := Nat.mul_le_mul_left n (by omega)
          have hnj : n * (j + 1) = n * j + n := Nat.mul_succ n j
          have hc0 := cnt_one T' (sk S9)
          have ho0 := HI.out.one
          have hnn := HNN.out
          have hLL := HL.out
          have hlen : T'.length ≤ sumL oneS T' := len_le fun p h => (HI.out.tab.2 p h).1
          obtain ⟨c, hc⟩ : ∃ c, cntL T' sk (sk S9) = c := ⟨_, rfl⟩
          rw [hc] at hc0
          have hcn : c + n < 1000000000 := by omega
          have hln : T'.length < 1000000000 := by omega
          have HADD : Hid (sumL oneS ((S9, n) :: T') = sumL oneS T + n * (j + 1)) := by
            show _ = _
            rw [sumL_cons, ho0, hnj]
            simp only [oneS]
            omega
          have HADZ : Hid (∀ f, i + 1 + f = d.N → sumL (fun S => zF d f S (i + 1)) ((S9, n) :: T') = sumL (fun S => zF d f S (i + 1)) T + n * ((Ss.take (j + 1)).map fun S => zF d f S (i + 1)).sum) := fun f hf => by
            rw [sumL_cons, HI.out.all f hf, HSTK.out, Nat.mul_add]
            omega
          clear hmem HSTK hn4 hnj ho0 hnn hLL hlen hc0
          have HCC := Lib.hid hc
          clear hc
          have hwr : IntKind.i64.wrap ((c : Int) + (n : Int)) = ((c + n : Nat) : Int) := by
            rw [IntWalk.i64_in _ (by omega)]
            push_cast
            rfl
          have hSA := seatC_is S9
          obtain ⟨cs9, hcs9⟩ : ∃ cs9, seatC S9 = cs9 := ⟨_, rfl⟩
          rw [hcs9] at hSA HMID
          have HCS9 := Lib.hid hcs9
          clear hcs9 hmid
          have HSZ : Hid ((Try.prog.info? 114).map (·.size) = some cs9.size) := by show _ = _; rw [hSA.1]; exact seat_info
          have HSE : Hid (zeroSeat.size = cs9.size) := by show _ = _; rw [hSA.1]; rfl
          have HAL : Hid (cs9.all (·.oneCell') = true) := hSA.all
          have HZ : Hid (Whole (wr.alloc (.cells zeroSeat 114)) wr.heap.size zeroSeat 114) := Whole.made _ _ _
          obtain ⟨w8, hw8⟩ : ∃ w8, (wr.alloc (.cells zeroSeat 114)).setRow wr.heap.size cs9 = w8 := ⟨_, rfl⟩
          have b8 : Below wr.heap.size wr w8 := by rw [← hw8]; exact below_setRow ((Below.refl _ _).alloc (Nat.le_refl _) _) (Nat.le_refl _)
          have HW8 : Hid (Whole w8 wr.heap.size cs9 114) := by rw [← hw8]; exact HZ.out.setRow
          have g8 := below_grown b8 (Nat.le_refl _)
          have HI8 : Hid (SprI w w8 B b1 b2 r k d i n X L T Ss (.slice (some ⟨g, 0, none⟩) Ss.length oc) left' cnt' j T') := ⟨HI.out.rg.grown g8 (by simp) (by simp), HI.out.tab.grown g8 (by simp), HI.out.one, HI.out.all, HI.out.own.kept g8 (.inr (by simp [Value.ownBlock])), HI.out.t.trans (Touch.of_below b8), Nat.le_trans HI.out.z b8.size⟩
          have hz8 := b8.size
          have hzX := HI.out.z
          have hD8 : wr.heap.size < w8.heap.size := HW8.out.lt
          simp only [zeroSeat] at hw8
          have HWE := Lib.hid hw8
          clear hw8 b8 g8 hSA HI
          go_upto_region 6 with (first | (refine wpList_load_midA rfl 114 (.tmp 23) rfl g (j * 28) (by rfl) cs9 _ HMID.out Try.underlying114 rfl HSZ.out ?_) | (refine wpList_store_row rfl 114 (.tmp 9) (.tmp 24) rfl wr.heap.size cs9 rfl rfl 114 zeroSeat HZ.out HSZ.out HSE.out HAL.out ?_))
          rw [HWE.out]
          clear HWE HZ HSE HMID HSZ HAL
          have HI8' : Hid (SprI w w8.drew B b1 b2 r k d i n X L T Ss (.slice (some ⟨g, 0, none⟩) Ss.length oc) left' cnt' j T') := ⟨HI8.out.rg, HI8.out.tab, HI8.out.one, HI8.out.all, HI8.out.own, HI8.out.t.trans (Touch.of_below (Below.refl _ _).drew), HI8.out.z⟩
          obtain ⟨v0, st, w9, he, ht9, hl9, w10, hs10, tb10, ht10⟩ := TabAt.entry HI8'.out.tab hsm9 (by omega) hpos (by rw [HCC.out]; exact hcn) hln
          rw [HCC.out] at hl9 hs10
          rw [HCS9.out] at he hl9
          have hlk := TabAt.look HI8'.out.tab (small127 hsm9 (by omega))
          rw [HCC.out, HCS9.out] at hlk
          have g10 := (ht9.trans ht10).grown
          have HI10 : Hid (SprI w w10 B b1 b2 r k d i n X L T Ss (.slice (some ⟨g, 0, none⟩) Ss.length oc) left' cnt' (j + 1) ((S9, n) :: T')) := ⟨HI8'.out.rg.grown g10 (by simp only [ne_eq, Option.some.injEq]; omega) (by simp only [ne_eq, Option.some.injEq]; omega), tb10, HADD.out, HADZ.out, HI8'.out.own.kept g10 (.inr (by simp only [Value.ownBlock, ne_eq, Option.some.injEq]; omega)), HI8'.out.t.grownR g10 (fun q h => by cases h; exact .inr hB2), Nat.le_trans HI8'.out.z g10.size⟩
          have HLK := Lib.hid hlk
          have HLK9 := Lib.hid hl9
          have HEN := Lib.hid he
          have HES := Lib.hid hs10
          generalize wr.heap.size = D9 at *
          obtain ⟨Sc, HSd⟩ : ∃ Sc : World → Prop, Sc = fun w' => Whole w' D9 cs9 114 := ⟨_, rfl⟩
          have OS : Hid (∀ wa, Sc wa → Whole wa D9 cs9 114) := by subst HSd; exact fun wa h => h
          have KS : Hid (∀ wa wb, Sc wa → wa.mapTurned wb b2 → Sc wb) := by subst HSd; exact fun wa wb h t => (t.grown.block D9 h.lt (by simp only [ne_eq, Option.some.injEq]; omega)).trans h
          have KS0 : Hid (Sc w8.drew) := by subst HSd; exact HW8.out
          have KS9 : Hid (Sc w9) := KS.out _ _ KS0.out ht9
          have KS10 : Hid (Sc w10) := KS.out _ _ KS9.out ht10
          have HSA9 : Hid (SeatA cs9 S9) := by rw [← HCS9.out]; exact seatC_is S9
          clear HSd he ht9 hl9 hs10 tb10 ht10 hlk g10 HI8 HI8' HW8 hcn hln
          refine wp_region_held_drew (S := Sc) (by kernel_rfl) ?_ (fun hHeld => ?_)
          · exact KS0.out
          refine wpAnyH_take (i := 0) (v := ?_) rfl (by kernel_rfl) (by kernel_rfl) (by kernel_rfl) (fun _ _ _ h => h) (Or.inl ⟨by rfl, ?_⟩) (by assumption) ?_
          rotate_left
          · (intro wa hSw; go_simp; try with_reducible rfl)
          simp only [Act.put, List.getElem_toArray, List.getElem_cons_zero, List.setIfInBounds_toArray, List.set_cons_zero, List.set_cons_succ]
          refine wpAnyH_take (i := 1) (v := .agg cs9) rfl (by kernel_rfl) (by kernel_rfl) (by kernel_rfl) (fun _ _ _ h => h) (Or.inl ⟨by rfl, ?_⟩) (by assumption) ?_
          · (intro wa hSw; exact exec_load_whole (ty := 114) (x := .tmp 9) (g := D9) (by rfl) (by rfl) (seat_load HSA9.out (OS.out _ hSw)))
          simp only [Act.put, List.getElem_toArray, List.getElem_cons_zero, List.getElem_cons_succ, List.setIfInBounds_toArray, List.set_cons_zero, List.set_cons_succ]
          refine wpAnyH_take (i := 3) (v := ?_) rfl (by kernel_rfl) (by kernel_rfl) (by kernel_rfl) (fun _ _ _ h => h) (Or.inl ⟨by rfl, ?_⟩) (by assumption) ?_
          rotate_left
          · (intro wa hSw; go_simp; try with_reducible rfl)
          simp only [Act.put, List.getElem_toArray, List.getElem_cons_zero, List.getElem_cons_succ, List.setIfInBounds_toArray, List.set_cons_zero, List.set_cons_succ]
          refine wpAnyH_ready (rs := [2, 5]) (by kernel_rfl) (by simp) ?_
          refine AllReadyH.cons (o := _) rfl (fun K hK => ?_) (AllReadyH.cons (o := _) rfl (fun K hK => ?_) AllReadyH.nil)
          · rw [if_pos (by rfl)]
            refine wp_look rfl (by rfl) (by rfl) HLK.out ?_
            refine hK.out _ _ hHeld (fun hHeld1 => ?_)
            clear hK K hHeld
            simp only [Act.put, List.getElem_toArray, List.getElem_cons_zero, List.getElem_cons_succ, List.setIfInBounds_toArray, List.set_cons_zero, List.set_cons_succ]
            refine wpAnyH_take (i := 4) (v := .int .i64 ((c + n : Nat) : Int)) rfl (by kernel_rfl) (by kernel_rfl) (by kernel_rfl) (fun _ _ _ h => h) (Or.inl ⟨by rfl, ?_⟩) (by assumption) ?_
            · (intro wa hSw; go_simp)
            simp only [Act.put, List.getElem_toArray, List.getElem_cons_zero, List.getElem_cons_succ, List.setIfInBounds_toArray, List.set_cons_zero, List.set_cons_succ]
            refine wpAnyH_ready (rs := [5]) (by kernel_rfl) (by simp) ?_
            refine AllReadyH.cons (o := _) rfl (fun K hK => ?_) AllReadyH.nil
            rw [if_pos (by rfl)]
            refine wp_entry rfl (by rfl) (by rfl) HEN.out ?_
            refine hK.out _ _ KS9.out (fun hHeld => ?_)
            clear hK K hHeld1
            simp only [Act.put, List.getElem_toArray, List.getElem_cons_zero, List.getElem_cons_succ, List.setIfInBounds_toArray, List.set_cons_zero, List.set_cons_succ]
            refine wpAnyH_take (i := 6) (v := ?_) rfl (by kernel_rfl) (by kernel_rfl) (by kernel_rfl) (fun _ _ _ h => h) (Or.inl ⟨by rfl, ?_⟩) (by assumption) ?_
            rotate_left
            · (intro wa hSw; go_simp; try with_reducible rfl)
            simp only [Act.put, List.getElem_toArray, List.getElem_cons_zero, List.getElem_cons_succ, List.setIfInBounds_toArray, List.set_cons_zero, List.set_cons_succ]
            refine wpAnyH_ready (rs := [7]) (by kernel_rfl) (by simp) ?_
            refine AllReadyH.cons (o := _) rfl (fun K hK => ?_) AllReadyH.nil
            rw [if_pos (by rfl)]
            refine wp_entryStore rfl (by rfl) (by rfl) (by rfl) HES.out ?_
            refine hK.out _ _ KS10.out (fun hHeld9 => ?_)
            clear hK K
            try simp only [Act.put]
            refine wpAnyH_done (by kernel_rfl) ?_ _
            clear hHeld9 KS KS0 KS9 KS10 OS HLK HLK9 HEN HES HSA9 HCS9 HCC
            go_wp2_with fail
            go_roundw
            case rel => exact ⟨j + 1, _, by omega, by go_num, HI10⟩
            case measure => simp [RowKit.intOf]; omega
          · rw [if_pos (by rfl)]
            refine wp_entry rfl (by rfl) (by rfl) HEN.out ?_
            refine hK.out _ _ KS9.out (fun hHeld1 => ?_)
            clear hK K hHeld
            simp only [Act.put, List.getElem_toArray, List.getElem_cons_zero, List.getElem_cons_succ, List.setIfInBounds_toArray, List.set_cons_zero, List.set_cons_succ]
            refine wpAnyH_take (i := 6) (v := ?_) rfl (by kernel_rfl) (by kernel_rfl) (by kernel_rfl) (fun _ _ _ h => h) (Or.inl ⟨by rfl, ?_⟩) (by assumption) ?_
            rotate_left
            · (intro wa hSw; go_simp; try with_reducible rfl)
            simp only [Act.put, List.getElem_toArray, List.getElem_cons_zero, List.getElem_cons_succ, List.setIfInBounds_toArray, List.set_cons_zero, List.set_cons_succ]
            refine wpAnyH_ready (rs := [2]) (by kernel_rfl) (by simp) ?_
            refine AllReadyH.cons (o := _) rfl (fun K hK => ?_) AllReadyH.nil
            rw [if_pos (by rfl)]
            refine wp_look rfl (by rfl) (by rfl) HLK9.out ?_
            refine hK.out _ _ KS9.out (fun hHeld => ?_)
            clear hK K hHeld1
            simp only [Act.put, List.getElem_toArray, List.getElem_cons_zero, List.getElem_cons_succ, List.setIfInBounds_toArray, List.set_cons_zero, List.set_cons_succ]
            refine wpAnyH_take (i := 4) (v := .int .i64 ((c + n : Nat) : Int)) rfl (by kernel_rfl) (by kernel_rfl) (by kernel_rfl) (fun _ _ _ h => h) (Or.inl ⟨by rfl, ?_⟩) (by assumption) ?_
            · (intro wa hSw; go_simp)
            simp only [Act.put, List.getElem_toArray, List.getElem_cons_zero, List.getElem_cons_succ, List.setIfInBounds_toArray, List.set_cons_zero, List.set_cons_succ]
            refine wpAnyH_ready (rs := [7]) (by kernel_rfl) (by simp) ?_
            refine AllReadyH.cons (o := _) rfl (fun K hK => ?_) AllReadyH.nil
            rw [if_pos (by rfl)]
            refine wp_entryStore rfl (by rfl) (by rfl) (by rfl) HES.out ?_
            refine hK.out _ _ KS10.out (fun hHeld9 => ?_)
            clear hK K
            try simp only [Act.put]
            refine wpAnyH_done (by kernel_rfl) ?_ _
            clear hHeld9 KS KS0 KS9 KS10 OS HLK HLK9 HEN HES HSA9 HCS9 HCC
            go_wp2_with fail
            go_roundw
            case rel => exact ⟨j + 1, _, by omega, by go_num, HI10⟩
            case measure => simp [RowKit.intOf]; omega
        · have hje : j = Ss.length := by omega
          subst hje
          have HON : Hid (SprO w wr B b1 b2 r k d i L left' cnt' T') := by
            refine ⟨HI.out.rg, HI.out.tab, ?_, fun f hf => ?_, HI.out.t⟩
            · have h1 := HI.out.one
              have h2 := HNN.out
              have h3 : n * Ss.length ≤ n * 4 := Nat.mul_le_mul_left n hl4
              omega
            · have h1 := HI.out.all f hf
              have h2 := HNZ.out f hf
              rw [List.take_length, HSU.out f hf] at h1
              omega
          have HLE : Hid (wr.rangeLeft b1 r = cnt') := HI.out.rg.left_eq
          clear HI HNN HNZ HSU HSM
          go_wp2
          go_roundw
          case rel => exact ⟨left', cnt', T', HON⟩
          case measure => rw [HLE.out]; exact HCN.out
end Go.Proofs.Ytmhkkdnopcdibaa
