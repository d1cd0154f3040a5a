/-
  Packed: DrwImplM, DrwImplN, DrwPlain.
-/
import Derived.Test.YtmhkkdnopcdibaaQ19
import Derived.Test.YtmhkkdnopcdibaaQ20
import Derived.Test.YtmhkkdnopcdibaaQ29
import Derived.Test.YtmhkkdnopcdibaaQ33
set_option linter.unusedVariables false
namespace Go.Proofs.Ytmhkkdnopcdibaa
open Go.RowKit Go.Maps

theorem wpList_seatInsert {w : World} {ops : Array Oper} {rest : List Oper} {o : Oper} {a : Act} {Q : Exit → Act → World → Prop} (hg : o.guard = none) (m x v : Operand) (hop : o.op = Op.insert 117 m x v)
    (b k : Nat) (S : Nat → Nat) (cs : Array Value) (hm : a.eval m = .map (some b)) (hx : a.eval x = .agg cs) (hcs : seatC S = cs) (hv : a.eval v = .int .i64 1) (h : TabAt w b k []) (hS : SmallS S k) (hk : k ≤ 90)
    (hK : ∀ w', TabAt w' b k [(S, 1)] → w.mapTurned w' b → w'.heap.size = w.heap.size → wpList Try.prog ops Q rest (a.put o.dst undef) w') :
    wpList Try.prog ops Q (o :: rest) a w := by
  refine wpList_plain hg fun K' hK' => ?_
  have hc0 : cntL [] sk (sk S) = 0 := by simp [cntL]
  obtain ⟨w', hrun, r1, r2⟩ := h.put (n := 1) hS hk (by omega) (by rw [hc0]; omega) (by simp)
  rw [hc0, hcs] at hrun
  simp only [Nat.zero_add, Int.natCast_one] at hrun
  unfold Oper.wp
  simp [execOp, hop, hm, hx, hv, hrun, Result.andThen]
  refine hK' _ _ (hK w' r1 r2 ?_)
  obtain ⟨es, clock, es', clock', hb, rfl⟩ := r2
  simp [Go.ChangeMaps.setBlock]
theorem foldS_small (d : DrwD) : ∀ (L : List Int) (i n : Nat) (S S' : Nat → Nat), SmallS S n → foldS d L i S = some S' → SmallS S' (n + L.length)
  | [], i, n, S, S', h, e => by
    simp only [foldS, Option.some.injEq] at e
    subst e
    exact h
  | x :: L, i, n, S, S', h, e => by
    rw [foldS_cons] at e
    split at e
    · have := foldS_small d L (i + 1) (n + 1) _ S' h.next e
      rw [List.length_cons, show n + (L.length + 1) = n + 1 + L.length by omega]
      exact this
    · cases e
def cntP (d : DrwD) (L : List Int) : Nat := match foldP d L with
  | some S => zF d (d.N - L.length) S L.length
  | none => 0
theorem run_makeMap1 {P : Program} {t k e : TypeId} (ht : P.underlying t = some (.map k e)) (w : World) : (Instr.makeMap t none).run P w = .ok (.map (some w.heap.size)) (w.alloc (.map #[] 0)) := by
  simp [Instr.makeMap, Result.andThen]
  try rfl
theorem zF_end (d : DrwD) (S : Nat → Nat) (f : Nat) : zF d f S d.N = 1 := by
  cases f with
  | zero => show (if d.N = d.N then 1 else 0) = 1; rw [if_pos rfl]
  | succ f => rw [zF_succ, if_pos rfl]
structure CfI (w wr : World) (B b1 b2 m x : Nat) (d : DrwD) (tv : Value) (R : Nat) (T : List ((Nat → Nat) × Nat)) : Prop where
  hb : (b1 = B ∧ b2 = B + 1) ∨ (b1 = B + 1 ∧ b2 = B)
  t1 : TabAt wr b1 (m + x) T
  t2 : TabAt wr b2 (m + x + 1) []
  all : ∀ f, m + x + f = d.N → sumL (fun S => zF d f S (m + x)) T = R
  one : sumL oneS T ≤ 4 ^ x
  bx : BoxN wr w.heap.size [tv, .int .i64 d.G, .int .i64 d.most]
  bel : Below w.heap.size w wr
  z : B + 2 ≤ wr.heap.size
  hB : w.heap.size < B
def restV (ta : Option Addr) (m n tc : Nat) : Value := .slice (if tc = m then ta else ta.map fun x => x.add (m * 3)) (n - m) (tc - m)
set_option maxRecDepth 100000 in
set_option maxHeartbeats 8000000 in
theorem countFrom_impl (ta : Option Addr) (tc : Nat) (d : DrwD) (ok : DrwOk d) (vp : Value) (L : List Int) (w : World) (hT : TurnsAt w (.slice ta d.N tc) d) (hv : IntRow w vp L.length (getI L)) :
    Calls Try.prog 44 #[.agg #[.slice ta d.N tc, .int .i64 d.G, .int .i64 d.most], vp] w fun e w' => e = .returned (.int .i64 (cntP d L)) ∧ Below w.heap.size w w' := by
  obtain ⟨va, vc, rfl, hl9, _⟩ := hv.form
  obtain ⟨W, hW⟩ : ∃ W, w.alloc (.cells #[.slice ta d.N tc, .int .i64 d.G, .int .i64 d.most] 61) = W := ⟨_, rfl⟩
  have b1 : Below w.heap.size w W := by rw [← hW]; exact (Below.refl w.heap.size w).alloc (Nat.le_refl _) _
  have HX : Hid (BoxN W w.heap.size [.slice ta d.N tc, .int .i64 d.G, .int .i64 d.most]) := by rw [← hW]; exact BoxN.made (Below.refl _ _) rfl
  have CA := Lib.hid (afterAll_impl ta tc d ok (.slice va L.length vc) L W (RecRow.below hT b1 (Nat.le_refl _)) (hv.below b1 (Nat.le_refl _)))
  have HB := Lib.hid b1
  have HOK := Lib.hid ok
  have HTT := Lib.hid hT
  have hN8 := ok.N
  have HSS : Hid (∀ S, foldP d L = some S → L.length ≤ d.N ∧ SmallS S L.length) := fun S h => by
    unfold foldP at h
    by_cases hl : L.length ≤ d.N
    · rw [if_pos hl] at h
      have := foldS_small d L 0 0 _ S (fun _ => Nat.le_refl _) h
      rw [Nat.zero_add] at this
      exact ⟨hl, this⟩
    · rw [if_neg hl] at h; cases h
  obtain ⟨R, hR⟩ : ∃ R, cntP d L = R := ⟨_, rfl⟩
  rw [hR]
  unfold cntP at hR
  obtain ⟨m, hm⟩ : ∃ m, L.length = m := ⟨_, rfl⟩
  rw [hm] at hl9 CA HSS hR ⊢
  obtain ⟨RR, hRR⟩ : ∃ RR, foldP d L = RR := ⟨_, rfl⟩
  rw [hRR] at CA HSS hR
  have HRE := Lib.hid hR
  clear hm hRR hv hT b1 ok hR
  have c0 := HX.out.2 0 _ rfl
  have c1 := HX.out.2 1 _ rfl
  have c2 := HX.out.2 2 _ rfl
  have z0 := HX.out.1
  go_enter Try.func44, Try.ntmps44
  go_wp2_with fail
  clear hW c0 c1 c2 z0
  refine CA.out.mono ?_
  rintro e w1 ⟨cs, S, rfl, hs, hS2, b⟩
  have HS := Lib.hid hs
  have HS2 := Lib.hid hS2
  have HB1 := Lib.hid (HB.out.trans (b.mono HB.out.size))
  have HX1 := Lib.hid (HX.out.below b)
  have HZ : Hid (Whole (w1.alloc (.cells zeroSeat 114)) w1.heap.size zeroSeat 114) := Whole.made _ _ _
  obtain ⟨V, hV⟩ : ∃ V, (w1.alloc (.cells zeroSeat 114)).setRow w1.heap.size cs = V := ⟨_, rfl⟩
  have bV : Below w1.heap.size w1 V := by rw [← hV]; exact below_setRow ((Below.refl _ _).alloc (Nat.le_refl _) _) (Nat.le_refl _)
  have HV5 : Hid (Whole V w1.heap.size cs 114) := by rw [← hV]; exact HZ.out.setRow
  have HXV := Lib.hid (HX1.out.below bV)
  have HBV := Lib.hid (HB1.out.trans (bV.mono HB1.out.size))
  have HSZ : Hid ((Try.prog.info? 114).map (·.size) = some cs.size) := by show _ = _; rw [hs.1]; exact seat_info
  have HSE : Hid (zeroSeat.size = cs.size) := by show _ = _; rw [hs.1]; rfl
  have HAL : Hid (cs.all (·.oneCell') = true) := hs.all
  simp only [zeroSeat] at hV
  have HWE := Lib.hid hV
  clear hs b CA HX HB HX1 hV bV hS2
  go_upto_region 2 with (refine wpList_store_row rfl 114 (.tmp 5) (.tmp 18) rfl w1.heap.size cs rfl rfl 114 zeroSeat HZ.out HSZ.out HSE.out HAL.out ?_)
  rw [HWE.out]
  clear HWE HZ HSE HAL HB1
  generalize w1.heap.size = D5 at *
  cases RR with
  | none =>
    obtain rfl : 0 = R := HRE.out
    go_wp2
    go_ret
    exact ⟨rfl, HBV.out⟩
  | some S0 =>
    obtain rfl : S = S0 := HS2.out S0 rfl
    obtain ⟨hmN, hsm⟩ := HSS.out S rfl
    have HSM := Lib.hid hsm
    have HRE2 : Hid (zF d (d.N - m) S m = R) := HRE.out
    clear hsm HSS HS2 HRE
    have HCE : Hid (seatC S = cs) := HS.out.eqC.symm
    have HM1 : Hid (TabAt (V.alloc (.map #[] 0)) V.heap.size m []) := TabAt.made V m
    have bA : Below V.heap.size V (V.alloc (.map #[] 0)) := (Below.refl _ _).alloc (Nat.le_refl _) _
    have HV6 : Hid (Whole (V.alloc (.map #[] 0)) D5 cs 114) := HV5.out.below bA
    have HXA : Hid (BoxN (V.alloc (.map #[] 0)) w.heap.size [.slice ta d.N tc, .int .i64 d.G, .int .i64 d.most]) := HXV.out.below bA
    have HBA : Hid (Below w.heap.size w (V.alloc (.map #[] 0))) := HBV.out.alloc HBV.out.size _
    have hVB : w.heap.size < V.heap.size := HXV.out.1
    have hmm := @run_makeMap1 Try.prog _ _ _ Try.underlying117
    clear bA HXV HBV HV5 HS
    go_upto_region 5 with (first | (refine wpList_seatInsert rfl (.tmp 22) (.tmp 23) _ rfl V.heap.size m S cs rfl rfl HCE.out rfl HM1.out HSM.out (by omega) ?_; intro U2 tb2 mt2 hs2) | (refine wpList_load_row rfl 114 (.tmp 5) rfl D5 rfl 114 cs (0, 0) _ HV6.out Try.underlying114 rfl HSZ.out ?_))
    have hs3 : U2.heap.size = V.heap.size + 1 := by rw [hs2]; simp
    have g2 := mt2.grown
    obtain ⟨U3, hU3⟩ : ∃ U3, U2.alloc (.map #[] 0) = U3 := ⟨_, rfl⟩
    have HC0 : Hid (CfI w U3 V.heap.size V.heap.size (V.heap.size + 1) m 0 d (.slice ta d.N tc) R [(S, 1)]) := by
      rw [← hU3]
      have t2 := TabAt.made U2 (m + 0 + 1)
      rw [hs3] at t2
      refine ⟨.inl ⟨rfl, rfl⟩, tb2.grown (World.grownBy_alloc _ _ none) (by simp), t2, fun f hf => ?_, ?_, (HXA.out.grown g2 (fun e => by simp only [Option.some.injEq] at e; omega)).below ((Below.refl _ _).alloc (Nat.le_refl _) _), (HBA.out.grown g2 HBA.out.size (fun q h => by cases h; omega)).alloc (by omega) _, by simp; omega, hVB⟩
      · have e : f = d.N - m := by omega
        subst e
        simp only [Nat.add_zero]
        rw [sumL_cons, HRE2.out]
        simp [sumL]
      · rw [sumL_cons]; simp [sumL, oneS]
    rw [hU3]
    clear hU3 g2 mt2 tb2 hs2 hs3 HXA HBA HV6 HM1 hVB HRE2 HSM HCE HSZ hmm
    generalize V.heap.size = B at *
    obtain ⟨ta9, tc9, hform, _, hcells⟩ := RecRow.form HTT.out
    simp only [Value.slice.injEq] at hform
    obtain ⟨rfl, hN9, rfl⟩ := hform
    have HRV : Hid (∀ (wx : World) (x : Nat), Below w.heap.size w wx → m + x < d.N → ∃ b off, (if tc = m then ta else ta.map fun x => x.add (m * 3)) = some ⟨b, off, none⟩ ∧ wx.cell? ⟨b, off + x * 3, none⟩ = some (.int .i64 (d.cl (m + x))) ∧ wx.cell? ⟨b, off + x * 3 + 1, none⟩ = some (.bool (epB d (m + x))) ∧ wx.cell? ⟨b, off + x * 3 + 2, none⟩ = some (.bool (ecB d (m + x)))) := fun wx x hb hx => by
      obtain ⟨tb, toff, rfl, htc, k0, k1, k2⟩ := turn_cells (RecRow.below HTT.out hb (Nat.le_refl _)) hx
      refine ⟨tb, toff + m * 3, ?_, ?_, ?_, ?_⟩
      · rw [if_neg (by omega)]
        simp [Addr.add]
      · rw [show toff + m * 3 + x * 3 = toff + (m + x) * 3 by omega]; exact k0
      · rw [show toff + m * 3 + x * 3 = toff + (m + x) * 3 by omega]; exact k1
      · rw [show toff + m * 3 + x * 3 = toff + (m + x) * 3 by omega]; exact k2
    have hcap : d.N ≤ tc := by
      by_cases h0 : 0 < d.N
      · exact (hcells h0).choose_spec.choose_spec.2.1
      · omega
    clear hcells hN9
    have c0 := HC0.out.bx.2 0 _ rfl
    have z0 := HC0.out.bx.1
    have hs1 : (m : Int) ≤ (d.N : Int) := by omega
    have hs2 : (d.N : Int) ≤ (tc : Int) := by omega
    go_cut [30, 31, 32] (fun s30 s31 s32 wx => s30 = restV ta m d.N tc ∧ s31 = .int .i64 ((d.N - m : Nat) : Int) ∧ s32 = .int .i64 0 ∧ wx = U3)
    case first =>
      clear HRV HC0
      by_cases e : tc = m
      · subst e
        go_wp2_with fail
        go_meet
        case rel => exact ⟨by unfold restV; rw [if_pos rfl, Nat.sub_self, show d.N - tc = 0 by omega], by rw [show d.N - tc = 0 by omega]; rfl, rfl, rfl⟩
      · go_wp2_with fail
        go_meet
        case rel => exact ⟨by unfold restV; rw [if_neg e], rfl, rfl, rfl⟩
    case rest =>
      obtain ⟨rfl, rfl, rfl, rfl⟩ := hcut
      unfold restV
      generalize (if tc = m then ta else ta.map fun x => x.add (m * 3)) = a9 at *
      obtain ⟨nq, hnq⟩ : ∃ nq, d.N - m = nq := ⟨_, rfl⟩
      rw [hnq]
      have hNq : m + nq = d.N := by omega
      clear c0 z0 hs1 hs2 hnq
      generalize wc = U9 at *
      go_wp2_with fail
      go_loopw [7, 8, 32] (fun s7 s8 s32 wr => ∃ (x b1 b2 : Nat) (T : List ((Nat → Nat) × Nat)), x ≤ nq ∧ s7 = .map (some b1) ∧ s8 = .map (some b2) ∧ s32 = .int .i64 x ∧ Hid (CfI w wr B b1 b2 m x d (.slice ta d.N tc) R T)) (fun _ _ iv _ => nq - (RowKit.intOf iv).toNat)
      case atStart => exact ⟨0, _, _, _, Nat.zero_le _, rfl, rfl, rfl, HC0⟩
      case round =>
        clear HC0
        obtain ⟨x, b1, b2, T, hx9, rfl, rfl, rfl, HC⟩ := hrel
        by_cases hlt : x < nq
        · obtain ⟨tb, toff, ha9, k0, k1, k2⟩ := HRV.out wr x HC.out.bel (by omega)
          subst ha9
          have hj : (x : Int) < (nq : Int) := by omega
          have hpow : 4 * sumL oneS T < 1000000000 := by
            have h1 := HC.out.one
            have h2 : 4 ^ x ≤ 4 ^ 8 := Nat.pow_le_pow_right (by omega) (by omega)
            have h3 : (4 : Nat) ^ 8 = 65536 := by decide
            omega
          obtain ⟨w7, hw7⟩ : ∃ w7, wr.alloc (.cells #[.int .i64 (d.cl (m + x)), .bool (epB d (m + x)), .bool (ecB d (m + x))] 108) = w7 := ⟨_, rfl⟩
          have b7 : Below wr.heap.size wr w7 := by rw [← hw7]; exact (Below.refl _ _).alloc (Nat.le_refl _) _
          have g7 := below_grown b7 (Nat.le_refl _)
          have hq7 : BoxN w7 wr.heap.size [.int .i64 (d.cl (m + x)), .bool (epB d (m + x)), .bool (ecB d (m + x))] := by rw [← hw7]; exact BoxN.made (Below.refl _ _) rfl
          have hp7 := HC.out.bx.below b7
          have CS := Lib.hid (spread_impl ta d.N tc d HOK.out (m + x) (by omega) (m + x) (by omega) B b1 b2 w.heap.size wr.heap.size HC.out.hb HC.out.hB HC.out.z T w7 (HC.out.t1.grown g7 (by simp)) (HC.out.t2.grown g7 (by simp)) hp7 hq7 hpow)
          have HP7 := Lib.hid hp7
          have HB7 : Hid (Below w.heap.size w w7) := HC.out.bel.trans (b7.mono HC.out.bel.size)
          have hz7 := b7.size
          generalize d.cl (m + x) = cl at *
          generalize epB d (m + x) = ep at *
          generalize ecB d (m + x) = ec at *
          have HWE := Lib.hid hw7
          clear hw7 b7 g7 hq7 hp7 hpow
          go_upto_region 8 with fail
          rw [HWE.out]
          clear HWE k0 k1 k2
          go_wp2_with fail
          refine CS.out.mono ?_
          rintro e w8 ⟨rfl, T', tb1, tb2, hall, hone, ht⟩
          have HCN : Hid (CfI w w8 B b2 b1 m (x + 1) d (.slice ta d.N tc) R T') := by
            have hB := HC.out.hB
            have hz := HC.out.z
            have hsz := ht.size
            refine ⟨by have := HC.out.hb; omega, tb1, tb2, fun f hf => ?_, ?_, HP7.out.touch ht (.inl hB), HB7.out.trans (ht.below (by omega) (by omega)), by omega, hB⟩
            · have h1 := hall f (by omega)
              have h2 := HC.out.all (f + 1) (by omega)
              exact h1.trans h2
            · have h1 := HC.out.one
              have h2 : 4 ^ (x + 1) = 4 ^ x * 4 := Nat.pow_succ 4 x
              omega
          clear HC CS HP7 HB7 tb1 tb2 hall hone ht hz7
          go_wp2
          go_roundw
          case rel => exact ⟨x + 1, b2, b1, T', by omega, rfl, rfl, by go_num, HCN⟩
          case measure => simp [RowKit.intOf]; omega
        · obtain rfl : x = nq := by omega
          have HT1 := Lib.hid HC.out.t1
          have HBE := Lib.hid HC.out.bel
          have hB := HC.out.hB
          have hb := HC.out.hb
          have HRR : Hid (sumL oneS T = R) := by
            have h1 := HC.out.all 0 (by omega)
            have h2 : (fun S => zF d 0 S (m + x)) = oneS := by
              funext S
              show zF d 0 S (m + x) = 1
              rw [hNq]
              exact zF_end d S 0
            rw [h2] at h1
            exact h1
          have h4 : sumL oneS T < 1000000000 := by
            have h1 := HC.out.one
            have h2 : 4 ^ x ≤ 4 ^ 8 := Nat.pow_le_pow_right (by omega) (by omega)
            have h3 : (4 : Nat) ^ 8 = 65536 := by decide
            omega
          rw [HRR.out] at h4
          have hWz := HBE.out.size
          have hT1l := HT1.out.lt
          have hk8 : m + x ≤ 8 := by omega
          clear HC HRV hNq
          go_wp2_with (at_range; refine wpList_seatRange rfl (.tmp 43) rfl b1 (m + x) T rfl HT1.out (by omega) ?_; intro w9 left0 cnt0 hla hr hg9)
          go_frame
          have HR0 := Lib.hid hr
          have HS0 : Hid (0 + restL oneS left0 T = R) := by show _ = _; rw [rest_all oneS hla, HRR.out, Nat.zero_add]
          have HB0 : Hid (Below w.heap.size w w9) := HBE.out.grown hg9 hWz (fun q h => by cases h)
          have hr9 : w.heap.size ≤ wr.heap.size := hWz
          clear hla hr hg9 HT1 HBE HRR hWz
          generalize wr.heap.size = r at *
          go_loopw [11] (fun s11 wz => ∃ (s : Nat) (left : Lit → Bool) (cnt : Nat), s11 = .int .i64 s ∧ Hid (RngAt wz b1 r (m + x) T left cnt) ∧ Hid (s + restL oneS left T = R) ∧ Hid (Below w.heap.size w wz)) (fun _ wz => wz.rangeLeft b1 r)
          case atStart => exact ⟨0, _, _, rfl, HR0, HS0, HB0⟩
          case round =>
            clear HR0 HS0 HB0
            obtain ⟨s, left, cnt, rfl, HR, HS, HB⟩ := hrel
            go_wp2_with (at_next; refine wpList_seatNext rfl (.tmp 44) rfl b1 r (m + x) T left cnt rfl HR.out (by omega) ?_ ?_)
            · intro hno
              obtain rfl : s = R := by have := HS.out; rw [rest_none _ hno] at this; omega
              clear HR HS hno
              go_wp2
              go_ret
              exact ⟨rfl, HB.out⟩
            · intro S9 w4 cnt' hsS hpos hlS hrg4 hlt9 hg4 hen
              have hst := rest_strike oneS (L := T) hlS (small127 hsS (by omega)) (fun p hp => small127 (HR.out.2.2 p hp).2 (by omega)) (fun _ _ _ => rfl)
              obtain ⟨n, hn⟩ : ∃ n, cntL T sk (sk S9) = n := ⟨_, rfl⟩
              rw [hn] at hst hen
              have hss := HS.out
              have e1 : oneS S9 = 1 := rfl
              rw [hst, e1, Nat.mul_one] at hss
              have HSN : Hid (s + n + restL oneS (fun z => left z && !z.sameKey (sk S9)) T = R) := by show _ = _; omega
              have hsn : s + n ≤ R := by omega
              have HM : Hid (w4.rangeLeft b1 r < wr.rangeLeft b1 r) := by show _ < _; rw [hrg4.left_eq, HR.out.left_eq]; exact hlt9
              have HB4 : Hid (Below w.heap.size w w4) := HB.out.grown hg4 HB.out.size (fun q h => by cases h; exact hr9)
              have HR4 := Lib.hid hrg4
              clear HR HS HB hst hss hrg4 hlt9 hg4 hn hlS hsS
              generalize (fun z => left z && !z.sameKey (sk S9)) = left' at *
              generalize seatC S9 = cs9 at *
              go_wp2
              go_roundw
              case rel => exact ⟨s + n, left', cnt', by go_num, HR4, HSN, HB4⟩
              case measure => exact HM.out
end Go.Proofs.Ytmhkkdnopcdibaa
set_option linter.unusedVariables false
namespace Go.Proofs.Ytmhkkdnopcdibaa
open Go.RowKit Go.Maps

theorem cntP_eq {nf : Nat} {F : Nat → TeamD} {T : List (List Int)} {gr most : Int} (hp : potsP nf F T gr most) (L : List Int) : cdN F T gr most L = (cntP (drwD F T gr most) L : Int) := by
  have ok := drw_ok hp
  unfold cdN cntP foldP begB
  show (match (if L.length ≤ (drwD F T gr most).N then begF (drwD F T gr most) L 0 noP noC else none) with | some (P, C) => ((cntF (drwD F T gr most) ((drwD F T gr most).N - L.length) P C L.length : Nat) : Int) | none => 0) = _
  generalize drwD F T gr most = d at *
  by_cases hl : L.length ≤ d.N
  · rw [if_pos hl, if_pos hl]
    obtain ⟨h1, h2⟩ := Sim.fold ok L 0 (fun _ => 0) noP noC (by omega) (Sim.start d)
    cases hf : foldS d L 0 (fun _ => 0) with
    | none => rw [h2 hf]; rfl
    | some S =>
      obtain ⟨P, C, hb, hs⟩ := h1 S hf
      rw [hb]
      rw [Nat.zero_add] at hs
      have := Sim.count ok (d.N - L.length) L.length S P C (by omega) hs
      show ((cntF d (d.N - L.length) P C L.length : Nat) : Int) = ((zF d (d.N - L.length) S L.length : Nat) : Int)
      rw [this]
  · rw [if_neg hl, if_neg hl]
    rfl
set_option maxRecDepth 100000 in
set_option maxHeartbeats 4000000 in
theorem countDraws_impl (vf : Value) (nf : Nat) (F : Nat → TeamD) (vp : Value) (gr most : Int) (T : List (List Int)) (vd : Value) (L : List Int) (R : Int) (w : World) (hR : potsP nf F T gr most → R = cdN F T gr most L) (hR0 : ¬ potsP nf F T gr most → R = 0) (hf : TeamRow w vf nf F) (hs : ∀ i, (F i).nm.size ≤ maxLen) (h : RdA tIntSS w [vp] T) (hw : tIntSS.wt T ≤ 1048576) (hd : IntRow w vd L.length (getI L)) :
    Calls Try.prog 13 #[vf, .agg #[vp, .int .i64 gr, .int .i64 most], vd] w fun e w' => e = .returned (.int .i64 R) ∧ Below w.heap.size w w' := by
  obtain ⟨pa, pc, rfl, hpn⟩ := pots_form h
  obtain ⟨da, dc, rfl, hdn, _⟩ := hd.form
  obtain ⟨U, hU⟩ : ∃ U, w.alloc (.cells #[.slice pa (List.length (α := List Int) T) pc, .int .i64 gr, .int .i64 most] 26) = U := ⟨_, rfl⟩
  have bU : Below w.heap.size w U := by rw [← hU]; exact (Below.refl _ _).alloc (Nat.le_refl _) _
  have HS : Hid (PotsAt U w.heap.size pa (List.length (α := List Int) T) pc gr most T) := by rw [← hU]; exact PotsAt.made h
  have HB := Lib.hid bU
  have HD : Hid (IntRow U (.slice da L.length dc) L.length (getI L)) := hd.below bU (Nat.le_refl _)
  have hf1 := hf.below bU (Nat.le_refl _)
  obtain ⟨fa, fc, rfl, hfn, _⟩ := hf.form
  by_cases hp : potsP nf F T gr most
  case neg =>
    obtain rfl : R = 0 := hR0 hp
    have CF := Lib.hid (drawingOf_no (.slice fa nf fc) nf F (.slice pa (List.length (α := List Int) T) pc) gr most T U hp hf1 hs HS.out.2 hw)
    generalize List.length (α := List Int) T = np at *
    generalize L.length = m at *
    have c0 := HS.out.1.2 0 _ rfl
    have c1 := HS.out.1.2 1 _ rfl
    have c2 := HS.out.1.2 2 _ rfl
    clear hp hR hR0 h hd hf hf1 hs hw bU
    go_enter Try.func13, Try.ntmps13
    go_wp2_with fail
    clear hU c0 c1 c2
    refine CF.out.mono ?_
    rintro e w1 ⟨rfl, b⟩
    have HB1 := Lib.hid (HB.out.trans (b.mono HB.out.size))
    clear b CF
    go_wp2
    go_ret
    exact ⟨rfl, HB1.out.alloc HB1.out.size _⟩
  have CF := Lib.hid (drawingOf_yes (.slice fa nf fc) nf F (.slice pa (List.length (α := List Int) T) pc) gr most T U hp hf1 hs HS.out.2 hw)
  have HOK := Lib.hid (drw_ok hp)
  have hRR : R = (cntP (drwD F T gr most) L : Int) := (hR hp).trans (cntP_eq hp L)
  have HRR := Lib.hid hRR
  clear hRR
  generalize drwD F T gr most = d at *
  obtain ⟨m, hm⟩ : ∃ m, L.length = m := ⟨_, rfl⟩
  have HM := Lib.hid hm
  rw [hm] at hdn ⊢
  generalize List.length (α := List Int) T = np at *
  have c0 := HS.out.1.2 0 _ rfl
  have c1 := HS.out.1.2 1 _ rfl
  have c2 := HS.out.1.2 2 _ rfl
  clear hp hR hR0 h hd hf hf1 hs hw bU hm
  go_enter Try.func13, Try.ntmps13
  go_wp2_with fail
  clear hU c0 c1 c2
  refine CF.out.mono ?_
  rintro e w1 ⟨tv, rfl, ht, b⟩
  obtain ⟨ta, tc, rfl⟩ := ht.form
  have HT1 := Lib.hid ht
  have HB1 := Lib.hid (HB.out.trans (b.mono HB.out.size))
  have HD1 : Hid (IntRow w1 (.slice da m dc) m (getI L)) := by
    have h9 := HD.out.below b (Nat.le_refl _)
    rw [HM.out] at h9
    exact h9
  have CA : Hid (∀ wa, Below w1.heap.size w1 wa → Calls Try.prog 44 #[.agg #[.slice ta d.N tc, .int .i64 d.G, .int .i64 d.most], .slice da m dc] wa fun e w' => e = .returned (.int .i64 R) ∧ Below wa.heap.size wa w') := fun wa hb => by
    have h9 := countFrom_impl ta tc d HOK.out (.slice da m dc) L wa (RecRow.below HT1.out hb (Nat.le_refl _))
    rw [HM.out, ← HRR.out] at h9
    exact h9 (HD1.out.below hb (Nat.le_refl _))
  clear b ht CF HS HB HD
  go_wp2_with fail
  refine (CA.out _ ((Below.refl _ _).alloc (Nat.le_refl _) _)).mono ?_
  rintro e w2 ⟨rfl, b⟩
  have HB2 : Hid (Below w.heap.size w w2) := HB1.out.trans ((((Below.refl _ _).alloc (Nat.le_refl _) _).trans (b.mono (by simp))).mono HB1.out.size)
  clear b CA
  go_wp2
  go_ret
  exact ⟨rfl, HB2.out⟩
end Go.Proofs.Ytmhkkdnopcdibaa
set_option linter.unusedVariables false
namespace Go.Proofs.Ytmhkkdnopcdibaa
open Go.RowKit

theorem foldS_app (d : DrwD) : ∀ (L M : List Int) (i : Nat) (S : Nat → Nat), foldS d (L ++ M) i S = (foldS d L i S).bind (fun S' => foldS d M (i + L.length) S')
  | [], M, i, S => rfl
  | x :: L, M, i, S => by
    rw [List.cons_append, foldS_cons, foldS_cons]
    split
    · rw [foldS_app d L M, List.length_cons, show i + 1 + L.length = i + (L.length + 1) by omega]
    · rfl
def vl (V : Nat → Nat) (i : Nat) : List Int := (List.range i).map fun j => (V j : Int)
theorem vl_len (V : Nat → Nat) (i : Nat) : (vl V i).length = i := by simp [vl]
theorem vl_succ (V : Nat → Nat) (i : Nat) : vl V (i + 1) = vl V i ++ [(V i : Int)] := by simp [vl, List.range_succ]
theorem vl_congr {V V' : Nat → Nat} {i : Nat} (h : ∀ j, j < i → V j = V' j) : vl V i = vl V' i := by
  unfold vl
  exact List.map_congr_left fun j hj => by rw [h j (List.mem_range.1 hj)]
theorem vl_get (V : Nat → Nat) {i j : Nat} (hj : j < i) : getI (vl V i) j = (V j : Int) := by
  have h : (vl V i)[j]? = some ((V j : Nat) : Int) := by simp [vl, hj]
  unfold getI
  rw [List.getD_eq_getElem?_getD, h]
  rfl
def PreS (d : DrwD) (L : List Int) (i : Nat) (P : Nat → Nat → Bool) (C : Nat → Nat → Int) : Prop := L.length = i ∧ ∃ S, foldS d L 0 (fun _ => 0) = some S ∧ Sim d i S P C
theorem PreS.nil (d : DrwD) : PreS d [] 0 noP noC := ⟨rfl, _, rfl, Sim.start d⟩
theorem PreS.cnt {d : DrwD} (ok : DrwOk d) {L : List Int} {i : Nat} {P : Nat → Nat → Bool} {C : Nat → Nat → Int} (h : PreS d L i P C) (hi : i ≤ d.N) : cntP d L = cntF d (d.N - i) P C i := by
  obtain ⟨rfl, S, hS, hs⟩ := h
  unfold cntP foldP
  rw [if_pos hi, hS]
  exact Sim.count ok _ _ S P C (by omega) hs
theorem PreS.next {d : DrwD} (ok : DrwOk d) {L : List Int} {i g : Nat} {P : Nat → Nat → Bool} {C : Nat → Nat → Int} (h : PreS d L i P C) (hi : i < d.N) (hg : g < d.G) (hf : fitB d P C i g = true) : PreS d (L ++ [(g : Int)]) (i + 1) (putP d P i g true) (putC d C i g true) := by
  obtain ⟨rfl, S, hS, hs⟩ := h
  have hfs : fitS d S L.length g = true := by rw [hs.fit hg hi]; exact hf
  refine ⟨by simp, nxtSe d S L.length g, ?_, hs.next ok hg hi hfs⟩
  rw [foldS_app, hS]
  show foldS d [(g : Int)] (0 + L.length) S = _
  rw [Nat.zero_add, foldS_cons, Int.toNat_natCast, if_pos ⟨by omega, hfs⟩]
  rfl
theorem PreS.more {d : DrwD} (ok : DrwOk d) {L : List Int} {i g : Nat} {P : Nat → Nat → Bool} {C : Nat → Nat → Int} (h : PreS d L i P C) (hi : i < d.N) (hg : g < d.G) : befS d i P C g + cntP d (L ++ [(g : Int)]) = befS d i P C (g + 1) := by
  rw [befS_succ]
  by_cases hf : fitB d P C i g = true
  · rw [if_pos hf, (h.next ok hi hg hf).cnt ok (by omega)]
  · rw [if_neg hf]
    obtain ⟨rfl, S, hS, hs⟩ := h
    have hfs : fitS d S L.length g = false := by rw [hs.fit hg hi]; simpa using hf
    have h0 : cntP d (L ++ [(g : Int)]) = 0 := by
      unfold cntP foldP
      by_cases hl : (L ++ [(g : Int)]).length ≤ d.N
      · rw [if_pos hl, foldS_app, hS]
        show (match foldS d [(g : Int)] (0 + L.length) S with | some S => _ | none => 0) = 0
        rw [Nat.zero_add, foldS_cons, Int.toNat_natCast, if_neg (fun h9 => by rw [hfs] at h9; exact absurd h9.2 (by decide))]
      · rw [if_neg hl]
    rw [h0]
theorem cntP_small {d : DrwD} (ok : DrwOk d) (L : List Int) : cntP d L ≤ 65536 := by
  unfold cntP foldP
  by_cases hl : L.length ≤ d.N
  · rw [if_pos hl]
    cases hf : foldS d L 0 (fun _ => 0) with
    | none => exact Nat.zero_le _
    | some S =>
      obtain ⟨h1, _⟩ := Sim.fold ok L 0 (fun _ => 0) noP noC (by omega) (Sim.start d)
      obtain ⟨P, C, _, hs⟩ := h1 S hf
      rw [Nat.zero_add] at hs
      show zF d (d.N - L.length) S L.length ≤ _
      rw [Sim.count ok (d.N - L.length) L.length S P C (by omega) hs]
      have h2 := cntF_le d ok.G.2 (d.N - L.length) P C L.length
      have h3 : 4 ^ (d.N - L.length) ≤ 4 ^ 8 := Nat.pow_le_pow_right (by decide) (by have := ok.N; omega)
      have h4 : (4 : Nat) ^ 8 = 65536 := by decide
      omega
  · rw [if_neg hl]
    exact Nat.zero_le _
def NthO (d : DrwD) (A : List Int) (i : Nat) (V : Nat → Nat) (x : Nat) : Prop :=
  ∃ P C, PreS d (vl V i) i P C ∧ x < cntF d (d.N - i) P C i ∧ vl V i ++ atF d (d.N - i) P C i x = A ∧ ∀ j, i ≤ j → V j = 0
def NthI (d : DrwD) (A : List Int) (i : Nat) (V : Nat → Nat) (g y : Nat) : Prop :=
  ∃ P C x, PreS d (vl V i) i P C ∧ x < cntF d (d.N - i) P C i ∧ vl V i ++ atF d (d.N - i) P C i x = A ∧ V i = g ∧ g < d.G ∧ befS d i P C g ≤ x ∧ y = x - befS d i P C g ∧ ∀ j, i < j → V j = 0
theorem NthO.begin {d : DrwD} (ok : DrwOk d) {A : List Int} {i : Nat} {V : Nat → Nat} {x : Nat} (h : NthO d A i V x) : NthI d A i V 0 x := by
  obtain ⟨P, C, h1, h2, h3, h4⟩ := h
  exact ⟨P, C, x, h1, h2, h3, h4 i (Nat.le_refl _), by have := ok.G; omega, Nat.zero_le _, by rw [befS_zero]; rfl, fun j hj => h4 j (by omega)⟩
theorem NthI.next {d : DrwD} (ok : DrwOk d) {A : List Int} {i : Nat} {V : Nat → Nat} {g y : Nat} (h : NthI d A i V g y) (hi : i < d.N) (hle : cntP d (vl V (i + 1)) ≤ y) : NthI d A i (fun j => if j = i then g + 1 else V j) (g + 1) (y - cntP d (vl V (i + 1))) := by
  obtain ⟨P, C, x, h1, h2, h3, h4, h5, h6, h7, h8⟩ := h
  have hm := h1.more ok hi h5
  rw [vl_succ, h4] at hle ⊢
  have hc := cnt_bef (d := d) (P := P) (C := C) hi
  have hv : vl (fun j => if j = i then g + 1 else V j) i = vl V i := vl_congr fun j hj => if_neg (by omega)
  have hg : g + 1 < d.G := by
    by_cases e : g + 1 = d.G
    · rw [hc, ← e] at h2; omega
    · omega
  refine ⟨P, C, x, by rw [hv]; exact h1, h2, by rw [hv]; exact h3, by simp, hg, by omega, by omega, fun j hj => ?_⟩
  show (if j = i then g + 1 else V j) = 0
  rw [if_neg (by omega)]
  exact h8 j hj
theorem NthI.done {d : DrwD} (ok : DrwOk d) {A : List Int} {i : Nat} {V : Nat → Nat} {g y : Nat} (h : NthI d A i V g y) (hi : i < d.N) (hlt : y < cntP d (vl V (i + 1))) : NthO d A (i + 1) V y := by
  obtain ⟨P, C, x, h1, h2, h3, h4, h5, h6, h7, h8⟩ := h
  have hm := h1.more ok hi h5
  rw [vl_succ, h4] at hlt
  have hp : pickG (befS d i P C) x d.G = g := pick_ok (befS_mono d i P C) h5 (by omega) h6
  obtain ⟨g', hg', hp', hf', hb', hx'⟩ := pick_fit (d := d) (P := P) (C := C) (i := i) (f := d.N - (i + 1)) (x := x) (by omega) (by rw [show d.N - (i + 1) + 1 = d.N - i by omega]; exact h2)
  rw [hp] at hp'
  subst hp'
  refine ⟨_, _, by rw [vl_succ, h4]; exact h1.next ok hi h5 hf', by rw [h7]; exact hx', ?_, fun j hj => h8 j (by omega)⟩
  rw [vl_succ, h4, h7, ← h3, atF_step hi hp, List.append_assoc]
  rfl
theorem NthO.last {d : DrwD} {A : List Int} {V : Nat → Nat} {x : Nat} (h : NthO d A d.N V x) : vl V d.N = A := by
  obtain ⟨P, C, h1, h2, h3, h4⟩ := h
  rw [Nat.sub_self] at h3
  rw [← h3]
  show vl V d.N = vl V d.N ++ []
  rw [List.append_nil]
end Go.Proofs.Ytmhkkdnopcdibaa
