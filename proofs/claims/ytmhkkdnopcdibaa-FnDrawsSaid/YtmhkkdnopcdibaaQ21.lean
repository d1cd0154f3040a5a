/-
  Packed: Draw10, DrawFacts, FieldPlain, TySlAp, RulesMake, TyBnd.
-/
import Derived.Test.YtmhkkdnopcdibaaQ1
import Derived.Test.YtmhkkdnopcdibaaQ3
import Derived.Test.YtmhkkdnopcdibaaQ5
import Derived.Test.YtmhkkdnopcdibaaQ7
import Derived.Test.YtmhkkdnopcdibaaQ9
import Derived.Test.YtmhkkdnopcdibaaQ14
import Derived.Test.YtmhkkdnopcdibaaQ15
import Derived.Test.YtmhkkdnopcdibaaQ20
set_option linter.unusedVariables false
namespace Go.Proofs.Ytmhkkdnopcdibaa
open Go.RowKit

def chL (F : Nat → TeamD) (T : List (List Int)) (gr most : Int) (x : Int) : List Int :=
  if 0 ≤ placeI (fun i => ((teamAt T i : Nat) : Int)) x T.flatten.length 0 then (List.range gr.toNat).map fun g => ((chF (drwD F T gr most) (placeI (fun i => ((teamAt T i : Nat) : Int)) x T.flatten.length 0).toNat noP noC 0 g : Nat) : Int) else []
theorem chF_eq {d d' : DrwD} (h : DrwEq d d') : chF d = chF d' := by
  funext f
  induction f with
  | zero =>
    funext P C i a
    show (if fitB d P C i a = true then cntF d (d.N - (i + 1)) (Go.Proofs.Ytmhkkdnopcdibaa.putP d P i a true) (Go.Proofs.Ytmhkkdnopcdibaa.putC d C i a true) (i + 1) else 0) = _
    rw [h.N, h.fit, h.cnt, h.putP, h.putC]
    rfl
  | succ f IH =>
    funext P C i a
    show sumNN (fun g => if fitB d P C i g = true then chF d f (Go.Proofs.Ytmhkkdnopcdibaa.putP d P i g true) (Go.Proofs.Ytmhkkdnopcdibaa.putC d C i g true) (i + 1) a else 0) d.G = _
    rw [h.G, h.fit, h.putP, h.putC, IH]
    rfl
theorem placeI_lt (g : Nat → Int) (x : Int) : ∀ r k, placeI g x r k < (k : Int) + r
  | 0, k => by show (-1 : Int) < _; omega
  | r + 1, k => by
    show (if _ then _ else _) < _
    split
    · omega
    · have := placeI_lt g x r (k + 1); omega
theorem ch_small (d : DrwD) (h4 : d.G ≤ 4) (h12 : d.N ≤ 12) (f : Nat) (hf : f ≤ 12) (P : Nat → Nat → Bool) (C : Nat → Nat → Int) (i g : Nat) : chF d f P C i g ≤ 4611686018427387904 := by
  refine Nat.le_trans (chF_le d h4 h12 f P C i g) ?_
  refine Nat.le_trans (Nat.mul_le_mul_right _ (Nat.pow_le_pow_right (by decide) hf)) ?_
  decide
set_option maxRecDepth 100000 in
set_option maxHeartbeats 8000000 in
theorem chancesOf_spec (vf : Value) (nf : Nat) (F : Nat → TeamD) (vp : Value) (gr most : Int) (T : List (List Int)) (x : Int) (R : List Int) (w : World) (hR : potsP nf F T gr most → R = chL F T gr most x) (hR0 : ¬ potsP nf F T gr most → R = []) (hf : TeamRow w vf nf F) (hs : ∀ i, (F i).nm.size ≤ maxLen) (h : RdA tIntSS w [vp] T) (hw : tIntSS.wt T ≤ 1048576) :
    Calls Try.prog 40 #[vf, .agg #[vp, .int .i64 gr, .int .i64 most], .int .i64 x] w (IntsL w R) := by
  obtain ⟨pa, pc, rfl, hpn⟩ := pots_form h
  obtain ⟨r1, hr1⟩ := boolEx (potsP nf F T gr most)
  obtain ⟨U, hU⟩ : ∃ U, w.alloc (.cells #[.slice pa (List.length (α := List Int) T) pc, .int .i64 gr, .int .i64 most] 26) = U := ⟨_, rfl⟩
  have bU : Below w.heap.size w U := by rw [← hU]; exact (Below.refl _ _).alloc (Nat.le_refl _) _
  have HS : Hid (PotsAt U w.heap.size pa (List.length (α := List Int) T) pc gr most T) := by rw [← hU]; exact PotsAt.made h
  have HB := Lib.hid bU
  have HF : Hid (TeamRow U vf nf F) := hf.below bU (Nat.le_refl _)
  have CF := Lib.hid (potsOk_spec vf nf F (.slice pa (List.length (α := List Int) T) pc) gr most T r1 U hr1 HF.out hs HS.out.2 hw)
  have CN : Hid (∀ wa, TeamRow wa vf nf F → RdA tIntSS wa [.slice pa (List.length (α := List Int) T) pc] T → potsP nf F T gr most → Calls Try.prog 65 #[vf, .agg #[.slice pa (List.length (α := List Int) T) pc, .int .i64 gr, .int .i64 most]] wa (NewM wa (drwD F T gr most))) := fun wa h1 h2 h3 => l12New_spec _ _ _ _ _ _ _ wa h1 h2 hw h3
  have HR1 := Lib.hid hr1
  have HRR := Lib.hid hR
  have HR0 := Lib.hid hR0
  obtain ⟨np, hnp⟩ : ∃ np, List.length (α := List Int) T = np := ⟨_, rfl⟩
  rw [hnp] at hU HS CF CN ⊢
  have c0 := HS.out.1.2 0 _ rfl
  have c1 := HS.out.1.2 1 _ rfl
  have c2 := HS.out.1.2 2 _ rfl
  clear h hf hR hR0 hr1 bU hw hs hnp hpn
  go_enter Try.func40, Try.ntmps40
  go_wp2_with fail
  clear hU c0 c1 c2
  refine CF.out.mono ?_
  rintro e w1 ⟨rfl, b⟩
  have HS1 := Lib.hid (HS.out.below b)
  have HF1 := Lib.hid (HF.out.below b (Nat.le_refl _))
  have HB1 := Lib.hid (HB.out.trans (b.mono HB.out.size))
  clear b HS HB CF HF
  have c0 := HS1.out.1.2 0 _ rfl
  have c1 := HS1.out.1.2 1 _ rfl
  have c2 := HS1.out.1.2 2 _ rfl
  cases r1 with
  | false =>
    obtain rfl : R = [] := HR0.out fun h => by have := HR1.out.2 h; cases this
    go_wp2
    go_ret
    exact ⟨_, rfl, World.ownsRow_nil _ _ _ _, HB1.out⟩
  | true =>
  have HP := Lib.hid (HR1.out.1 rfl)
  have HRE := Lib.hid (HRR.out HP.out)
  have CN1 := Lib.hid (CN.out w1 HF1.out HS1.out.2 HP.out)
  obtain ⟨G, hGr⟩ : ∃ G : Nat, gr = (G : Int) := ⟨gr.toNat, by have := HP.out.2.1; omega⟩
  have HGR := Lib.hid hGr
  clear HR1 HRR HR0 CN hGr
  go_wp2_with fail
  clear c0 c1 c2
  refine CN1.out.mono ?_
  rintro e w2 ⟨lo, hi, X, d, rfl, hq, hdr, b, hlo⟩
  have hGr := HGR.out
  clear HGR
  have HB2 := Lib.hid (HB1.out.trans (b.mono HB1.out.size))
  have HS2 := Lib.hid (HS1.out.below b)
  have HDr := Lib.hid hdr
  have HLO : Hid (w.heap.size ≤ lo) := Nat.le_trans HB1.out.size hlo
  have h4 : d.G ≤ 4 := hdr.caps.2.2.2.2.1
  have h12 : d.N ≤ 12 := hdr.caps.2.2.2.1
  have hhi : hi ≤ w2.heap.size := hdr.mp.high
  have hlh : lo < hi := Nat.lt_of_le_of_lt hdr.mp.low.1 hdr.mp.low.2
  have hdG : d.G = G := by have h9 := hq.G; have h8 : (drwD F T gr most).G = gr.toNat := rfl; omega
  have hN0 : 0 < T.flatten.length := flat_some (by have := HP.out.2.2.2.1; omega) fun i hi => by have := (HP.out.2.2.2.2.1 i hi).1; omega
  have hNT : d.N = T.flatten.length := hq.N
  have hteam : d.team = teamAt T := hq.team
  have hrow : IntRow w2 (.slice (some ⟨d.tb, d.to, none⟩) d.N d.tc) d.N (fun i => ((teamAt T i : Nat) : Int)) := .inr ⟨d.tb, d.to, d.tc, rfl, by omega, by omega, fun i hi => by have := (hdr.team i hi).1; rw [hteam] at this; exact this, hdr.caps.2.1⟩
  have CP := Lib.hid (placeOf_spec _ _ _ x w2 hrow)
  rw [hNT] at CP
  have HPL := Lib.hid (placeI_lt (fun i => ((teamAt T i : Nat) : Int)) x T.flatten.length 0)
  have HRx : Hid (R = if 0 ≤ placeI (fun i => ((teamAt T i : Nat) : Int)) x T.flatten.length 0 then (List.range G).map fun g => ((chF d (placeI (fun i => ((teamAt T i : Nat) : Int)) x T.flatten.length 0).toNat noP noC 0 g : Nat) : Int) else []) := by
    show _ = _
    rw [HRE.out]
    unfold chL
    rw [← chF_eq hq, hGr]
    rfl
  have c2 := hdr.box.2 2 _ rfl
  have c1 := HS2.out.1.2 1 _ rfl
  have c0 := HS2.out.1.2 0 _ rfl
  have c3 := HS2.out.1.2 2 _ rfl
  rw [hNT] at c2
  rw [hGr] at c1
  obtain ⟨N, hNd⟩ : ∃ N, T.flatten.length = N := ⟨_, rfl⟩
  rw [hNd] at CP HPL HRx hNT c2
  generalize placeI (fun i => ((teamAt T i : Nat) : Int)) x N 0 = at9 at *
  clear hdr hq b hlo CN1 HRE hrow hteam hNd hN0
  subst hGr
  go_wp2_with fail
  clear c2
  refine CP.out.mono ?_
  rintro e wx ⟨rfl, rfl⟩
  by_cases hat : 0 ≤ at9
  case neg =>
    have g1 : decide (at9 < 0) = true := decide_eq_true (by omega)
    obtain rfl : R = [] := by rw [HRx.out, if_neg hat]
    go_wp2
    go_ret
    exact ⟨_, rfl, World.ownsRow_nil _ _ _ _, HB2.out⟩
  obtain ⟨f, rfl⟩ : ∃ f : Nat, at9 = f := ⟨at9.toNat, by omega⟩
  have g1 : decide ((f : Int) < 0) = false := decide_eq_false (by omega)
  have HRy : Hid (R = (List.range G).map fun g => ((chF d f noP noC 0 g : Nat) : Int)) := by show _ = _; rw [HRx.out, if_pos hat, Int.toNat_natCast]
  have hfN : 0 + f < d.N := by have := HPL.out; omega
  obtain ⟨W, hW⟩ : ∃ W, w2.alloc (.cells (madeCells #[.int .i64 0] G) 3) = W := ⟨_, rfl⟩
  have hG9 : G ≤ 4 := by omega
  have mk : ∀ w, (Instr.makeSlice 31 (.int .i64 (G : Int)) (.int .i64 (G : Int))).run Try.prog w = .ok (.slice (some ⟨w.heap.size, 0, none⟩) G G) (w.alloc (.cells (madeCells #[.int .i64 0] G) 3)) := fun w => run_make_row' _ _ _ 8 Try.underlying31 Try.infoI rfl .i64 .i64 G (by omega) (by omega) w
  have bW : Below w2.heap.size w2 W := by rw [← hW]; exact (Below.refl _ _).alloc (Nat.le_refl _) _
  have HSI : Hid (SumI W w2.heap.size d.G (fun _ => 0)) := by rw [← hW, hdG]; exact SumI.of (World.rowIs_made w2 (.int .i64 0) G 3)
  have CH := Lib.hid (l12Chances_spec lo hi X w2.heap.size G d hhi (by omega) f 0 f noP noC (fun _ => 0) W (by omega) hfN (HDr.out.below bW) (clubB.none d) HSI.out (fun g _ => by
    rw [Nat.zero_add]
    exact ch_small d h4 h12 f (by omega) noP noC 0 g))
  rw [hdG] at CH
  have HBW : Hid (Below w.heap.size w W) := HB2.out.trans (bW.mono HB2.out.size)
  have hws : w.heap.size ≤ w2.heap.size := HB2.out.size
  clear bW HSI HRx CP HPL
  go_wp2_with fail
  clear c0 c1 c3 mk
  refine CH.out.mono ?_
  rintro e w5 ⟨rfl, _, hs5, hb5⟩
  have HO5 := Lib.hid (hs5.owns hG9 hws)
  have HB5 : Hid (Below w.heap.size w w5) := HBW.out.trans (hb5.mono HLO.out)
  clear hs5 hb5 CH hW
  go_wp2
  go_ret
  have hl : ((List.range G).map fun g => ((chF d f noP noC 0 g : Nat) : Int)).length = G := by simp
  rw [HRy.out]
  refine ⟨_, rfl, ?_, HB5.out⟩
  rw [hl, List.map_map]
  have h9 := HO5.out
  simp only [Nat.zero_add] at h9
  exact h9
end Go.Proofs.Ytmhkkdnopcdibaa
set_option linter.unusedVariables false
namespace Go.Proofs.Ytmhkkdnopcdibaa
open Go.RowKit

structure DrwFacts (F : Nat → TeamD) (T : List (List Int)) (gr most : Int) (G c N : Nat) (A : Nat → List Int) (t S : Nat → Nat) : Prop where
  none : cdN F T gr most [] = (c : Int)
  small : c ≤ 67108864
  twelve : N ≤ 12
  nth : ∀ x : Int, nthL F T gr most c x = if 0 ≤ x ∧ x ≤ (c : Int) - 1 then some (A x.toNat) else Option.none
  len : ∀ i, (A i).length = N
  isB : ∀ i, i < c → isB F T gr most (A i) = true
  idx : ∀ i, i < c → idxF (drwD F T gr most) (A i) 0 noP noC = i
  one : ∀ i, i < c → cdN F T gr most (A i) = 1
  less : ∀ i j, i < j → j < c → lessP (A i) (A j)
  start : S 0 = 0
  step : ∀ g, S (g + 1) = S g + t g
  beg : ∀ g, g < G → cdN F T gr most [(g : Int)] = (t g : Int)
  sum : S G = c
  bound : ∀ g, g ≤ G → S g ≤ 67108864
  grp : ∀ i g, i < c → (grpL T.flatten (A i) g T.flatten.length).length ≤ T.length
theorem draws_facts {nf : Nat} {F : Nat → TeamD} {T : List (List Int)} {gr most : Int} {G : Nat} (hp : potsP nf F T gr most) (hG : gr = (G : Int)) :
    DrwFacts F T gr most G (cntF (drwD F T gr most) T.flatten.length noP noC 0) T.flatten.length (fun i => atF (drwD F T gr most) T.flatten.length noP noC 0 i)
      (fun g => if fitB (drwD F T gr most) noP noC 0 g = true then cntF (drwD F T gr most) (T.flatten.length - 1) (putP (drwD F T gr most) noP 0 g true) (putC (drwD F T gr most) noC 0 g true) 1 else 0)
      (befS (drwD F T gr most) 0 noP noC) := by
  obtain ⟨h4, h12⟩ := pots_twelve hp
  have hgr := hp.2.1
  have hT := hp.2.2.2.1
  have hrow := hp.2.2.2.2.1
  have hN0 : 0 < T.flatten.length := flat_some (by omega) fun i hi => by have := (hrow i hi).1; omega
  have hGG : (drwD F T gr most).G = G := by show gr.toNat = G; omega
  have hNN : (drwD F T gr most).N = T.flatten.length := rfl
  have hle := cntF_le (drwD F T gr most) h4 T.flatten.length noP noC 0
  have h5 : 4 ^ T.flatten.length ≤ 4 ^ 12 := Nat.pow_le_pow_right (by decide) h12
  have h6 : 4 ^ 12 ≤ 67108864 := by decide
  have hok := fun i hi => at_ok (drwD F T gr most) T.flatten.length noP noC 0 i (by rw [hNN]; omega) hi
  have hlen := fun i => atF_len (drwD F T gr most) T.flatten.length noP noC 0 i
  refine ⟨cdN_none F T gr most, by omega, h12, fun x => rfl, hlen, fun i hi => ?_, fun i hi => (hok i hi).2, fun i hi => cdN_full (hlen i) (hok i hi).1, fun i j hij hj => at_less _ _ _ _ _ _ _ (by rw [hNN]; omega) hij hj, rfl, fun g => ?_, fun g hg => cdN_one (by omega) (by omega), ?_, fun g hg => ?_, fun i g hi => ?_⟩
  · unfold Go.Proofs.Ytmhkkdnopcdibaa.isB begB
    rw [if_pos (by rw [hNN, hlen i]; exact Nat.le_refl _), (hok i hi).1, hlen i]
    simp
  · rw [befS_succ]
    rfl
  · have h := cnt_bef (d := drwD F T gr most) (P := noP) (C := noC) (i := 0) (by rw [hNN]; exact hN0)
    rw [← hGG]
    exact h.symm
  · exact befS_le _ h4 (by rw [hNN]; exact h12) 0 noP noC g (by omega)
  · exact group_len (d := drwD F T gr most) (hok i hi).1 (fun k hk => potAt_lt T k hk) (by rw [hlen i]; exact Nat.le_refl _)
theorem placeI_mem (g : Nat → Int) (x : Int) : ∀ r k j, k ≤ j → j < k + r → g j = x → (k : Int) ≤ placeI g x r k
  | 0, k, j, h1, h2, h3 => by omega
  | r + 1, k, j, h1, h2, h3 => by
    show (k : Int) ≤ if g k = x then (k : Int) else placeI g x r (k + 1)
    by_cases e : g k = x
    · rw [if_pos e]; exact Int.le_refl _
    · rw [if_neg e]
      have hne : k ≠ j := fun h => e (by rw [h]; exact h3)
      have := placeI_mem g x r (k + 1) j (by omega) (by omega) h3
      omega
theorem getI_flat : ∀ (T : List (List Int)) (k j : Nat), k < T.length → j < (T.getD k []).length → ∃ i, i < T.flatten.length ∧ getI T.flatten i = getI (T.getD k []) j ∧ (k = 0 → j = 0 → i = 0)
  | [], k, j, hk, hj => absurd hk (Nat.not_lt_zero _)
  | r :: T, 0, j, hk, hj => by
    have hj' : j < r.length := hj
    refine ⟨j, by rw [List.flatten_cons, List.length_append]; omega, ?_, fun _ h => h⟩
    show (r ++ T.flatten).getD j 0 = r.getD j 0
    rw [List.getD_eq_getElem?_getD, List.getD_eq_getElem?_getD, List.getElem?_append_left hj']
  | r :: T, k + 1, j, hk, hj => by
    have hj' : j < (T.getD k []).length := by simpa using hj
    obtain ⟨i, h1, h2, _⟩ := getI_flat T k j (by simpa using hk) hj'
    refine ⟨r.length + i, by rw [List.flatten_cons, List.length_append]; omega, ?_, fun h => by omega⟩
    have e : (r :: T).getD (k + 1) [] = T.getD k [] := by simp
    rw [e, ← h2]
    show (r ++ T.flatten).getD (r.length + i) 0 = T.flatten.getD i 0
    rw [List.getD_eq_getElem?_getD, List.getD_eq_getElem?_getD, List.getElem?_append_right (by omega), Nat.add_sub_cancel_left]
theorem chances_facts {nf : Nat} {F : Nat → TeamD} {T : List (List Int)} {gr most : Int} {G : Nat} (hp : potsP nf F T gr most) (hG : gr = (G : Int)) (k j : Nat) (hk : k < T.length) (hj : j < (T.getD k []).length) :
    ∃ ch : Nat → Nat, chL F T gr most (getI (T.getD k []) j) = (List.range G).map (fun g => ((ch g : Nat) : Int)) ∧ sumNN ch G = cntF (drwD F T gr most) T.flatten.length noP noC 0 ∧
      (getI (T.getD k []) j = getI (T.getD 0 []) 0 → ((ch 0 : Nat) : Int) = cdN F T gr most [((0 : Nat) : Int)]) := by
  have hgr := hp.2.1
  have hT := hp.2.2.2.1
  have hrow := hp.2.2.2.2.1
  have hN0 : 0 < T.flatten.length := flat_some (by omega) fun i hi => by have := (hrow i hi).1; omega
  have hGG : (drwD F T gr most).G = G := by show gr.toNat = G; omega
  have hNN : (drwD F T gr most).N = T.flatten.length := rfl
  obtain ⟨i, hi, hx, _⟩ := getI_flat T k j hk hj
  obtain ⟨i0, hi0, hx0, hz⟩ := getI_flat T 0 0 (by omega) (by have := (hrow 0 (by omega)).1; omega)
  have hz0 := hz rfl rfl
  subst hz0
  have hcast : ∀ m, m < T.flatten.length → ((teamAt T m : Nat) : Int) = getI T.flatten m := fun m hm => by
    have := (hp.2.2.2.2.2 m hm).1
    show ((getI T.flatten m).toNat : Int) = _
    omega
  obtain ⟨x, hxx⟩ : ∃ x, getI (T.getD k []) j = x := ⟨_, rfl⟩
  rw [hxx] at hx ⊢
  obtain ⟨p, hpl⟩ : ∃ p, placeI (fun i => ((teamAt T i : Nat) : Int)) x T.flatten.length 0 = p := ⟨_, rfl⟩
  have hp0 : (0 : Int) ≤ p := by
    rw [← hpl]
    exact placeI_mem _ x _ 0 i (Nat.zero_le _) (by omega) (by show ((teamAt T i : Nat) : Int) = x; rw [hcast i hi, hx])
  have hpN : p < T.flatten.length := by
    have := placeI_lt (fun i => ((teamAt T i : Nat) : Int)) x T.flatten.length 0
    rw [hpl] at this
    omega
  refine ⟨fun g => chF (drwD F T gr most) p.toNat noP noC 0 g, ?_, ?_, fun hfirst => ?_⟩
  · unfold chL
    rw [hpl, if_pos hp0, show gr.toNat = G by omega]
  · have h := sum_ch (drwD F T gr most) p.toNat noP noC 0 (by rw [hNN]; omega)
    rw [hGG] at h
    exact h
  · have hpz : p = 0 := by
      rw [← hpl]
      obtain ⟨m, hm⟩ : ∃ m, T.flatten.length = m + 1 := ⟨T.flatten.length - 1, by omega⟩
      rw [hm]
      show (if ((teamAt T 0 : Nat) : Int) = x then ((0 : Nat) : Int) else _) = 0
      rw [if_pos (by rw [hcast 0 hi0, hx0, ← hfirst])]
      rfl
    rw [cdN_one (by omega) (by omega), hpz]
    rfl
set_option maxRecDepth 100000 in
set_option maxHeartbeats 1000000 in
theorem less_yes (va vb : Value) (A B : List Int) (w : World) (h : lessP A B) (ha : IntRow w va A.length (getI A)) (hb : IntRow w vb B.length (getI B)) :
    Calls Try.prog 19 #[va, vb] w fun e w' => e = .returned (.bool true) ∧ w = w' := by
  obtain ⟨m, hma, hmb, heq, hlt⟩ := h
  obtain ⟨aa, ac, rfl, han, _⟩ := ha.form
  obtain ⟨ba, bc, rfl, hbn, _⟩ := hb.form
  generalize getI A = f at *
  generalize getI B = g at *
  generalize A.length = na at *
  generalize B.length = nb at *
  have HA := Lib.hid ha
  have HB := Lib.hid hb
  have HQ := Lib.hid heq
  obtain ⟨ab, ao, hae, hac, _⟩ := int_at ha hma
  obtain ⟨bb, bo, hbe, hbc, _⟩ := int_at hb hmb
  subst hae hbe
  have QA : Hid (∀ i, i < na → w.cell? ⟨ab, ao + i, none⟩ = some (.int .i64 (f i))) := fun i hi => by
    obtain ⟨ab', ao', he, _, h2⟩ := int_at HA.out hi
    simp only [Option.some.injEq, Addr.mk.injEq, and_true] at he
    obtain ⟨rfl, rfl⟩ := he
    exact h2
  have QB : Hid (∀ i, i < nb → w.cell? ⟨bb, bo + i, none⟩ = some (.int .i64 (g i))) := fun i hi => by
    obtain ⟨ab', ao', he, _, h2⟩ := int_at HB.out hi
    simp only [Option.some.injEq, Addr.mk.injEq, and_true] at he
    obtain ⟨rfl, rfl⟩ := he
    exact h2
  clear ha hb HA HB heq
  go_enter Try.func19, Try.ntmps19
  go_wp2
  go_loopw [9] (fun iv wx => ∃ i : Nat, i ≤ m ∧ iv = .int .i64 i ∧ wx = w) (fun iv _ => m - (RowKit.intOf iv).toNat)
  case atStart => exact ⟨0, Nat.zero_le _, rfl, rfl⟩
  case round =>
    obtain ⟨i, hi, rfl, hw⟩ := hrel
    subst hw
    have q1 := QA.out i (by omega)
    have q2 := QB.out i (by omega)
    have h1 : i < na := by omega
    have h2 : i < nb := by omega
    have h3 : (i : Int) < (na : Int) := by omega
    have h4 : (i : Int) < (nb : Int) := by omega
    by_cases e : i = m
    · subst e
      have h5 : decide (f i < g i) = true := decide_eq_true hlt
      have h6 : decide (f i = g i) = false := decide_eq_false (by omega)
      have h7 : (f i != g i) = true := by simp; omega
      go_wp2
      go_ret
      first | exact ⟨rfl, rfl⟩ | exact ⟨by simp [hlt], rfl⟩
    · have h5 : f i = g i := HQ.out i (by omega)
      rw [← h5] at q2
      have h7 : (f i != f i) = false := by simp
      go_wp2
      go_roundw
      case rel => exact ⟨i + 1, by omega, by simp, trivial⟩
      case measure => simp only [RowKit.intOf]; omega
end Go.Proofs.Ytmhkkdnopcdibaa
set_option linter.unusedVariables false
namespace Go.Proofs.Ytmhkkdnopcdibaa
open Go.RowKit

theorem madeNm_eq {i : Nat} (h : i < 10) : madeNm i = ⟨#[116, UInt8.ofNat (48 + i)]⟩ := by
  unfold madeNm
  rw [itoa_pos _ (by omega), Int.toNat_natCast, Lib.decDigits_one h]
  rfl
theorem madeNm_ok : ∀ i : Nat, i < 6 → nameB (madeNm i) = true := by
  intro i h
  rw [madeNm_eq (by omega)]
  have : i = 0 ∨ i = 1 ∨ i = 2 ∨ i = 3 ∨ i = 4 ∨ i = 5 := by omega
  rcases this with rfl | rfl | rfl | rfl | rfl | rfl <;> decide
theorem madeNm_inj {i j : Nat} (hi : i < 6) (hj : j < 6) (h : madeNm i = madeNm j) : i = j := by
  rw [madeNm_eq (by omega), madeNm_eq (by omega)] at h
  have key : ∀ a b : Fin 6, UInt8.ofNat (48 + a.val) = UInt8.ofNat (48 + b.val) → a = b := by decide
  have e : UInt8.ofNat (48 + i) = UInt8.ofNat (48 + j) := by
    have := congrArg (fun b : ByteArray => b.data.toList) h
    simpa using this
  have := key ⟨i, hi⟩ ⟨j, hj⟩ e
  simpa using this
theorem madeSeed_inj {n turn i j : Nat} (hn : 2 ≤ n ∧ n ≤ 6) (hi : i < n) (hj : j < n) (h : (i + turn) % n = (j + turn) % n) : i = j := by
  have : n = 2 ∨ n = 3 ∨ n = 4 ∨ n = 5 ∨ n = 6 := by omega
  rcases this with rfl | rfl | rfl | rfl | rfl <;> omega
section
variable {n : Nat} {G : Nat → TeamD}
theorem FieldGood.field (h : FieldGood n G) : fieldP n G := by
  obtain ⟨hn, ⟨turn, ht, hm⟩, _⟩ := h
  refine ⟨by omega, fun i hi => ⟨⟨?_, ?_, ?_⟩, fun j hj => ⟨fun e => ?_, fun e => ?_⟩⟩⟩
  · rw [(hm i hi).1]; exact madeNm_ok i (by omega)
  · have := (hm i hi).2.1; omega
  · have := (hm i hi).2.2
    have := Nat.mod_lt (i + turn) (show 0 < n by omega)
    omega
  · rw [(hm i hi).1, (hm j (by omega)).1] at e
    have := madeNm_inj (by omega) (by omega) e
    omega
  · rw [(hm i hi).2.2, (hm j (by omega)).2.2] at e
    have := madeSeed_inj (turn := turn) hn (show j < n by omega) hi (by omega)
    omega
end
end Go.Proofs.Ytmhkkdnopcdibaa
set_option linter.unusedVariables false
namespace Go.Proofs.Ytmhkkdnopcdibaa
open Go.RowKit

def RowsAp (t : TypeId) (e : Ty) (w : World) (B : Nat) (v : Value) (d : List e.D) (xs : List Value) : Prop :=
  w.ownsRow B t 1 v d.length xs ∧ ∃ f : Nat → List Nat, (∀ i x, d[i]? = some x → e.Ow w B [xs.getD i undef] x (f i)) ∧ (∀ i, i < d.length → (f i).Nodup) ∧ (∀ i k, i < d.length → k < d.length → i ≠ k → ∀ q, q ∈ f i → q ∉ f k) ∧ ∀ i, i < d.length → ∀ q, q ∈ f i → v.ownBlock ≠ some q
theorem RowsAp.nil {t : TypeId} {e : Ty} {w : World} {B : Nat} {v : Value} (h : w.ownsRow B t 1 v 0 []) : RowsAp t e w B v [] [] :=
  ⟨h, fun _ => [], fun i x hx => (by cases hx), fun i hi => absurd hi (Nat.not_lt_zero _), fun i _ hi => absurd hi (Nat.not_lt_zero _), fun i hi => absurd hi (Nat.not_lt_zero _)⟩
theorem RowsAp.below {t : TypeId} {e : Ty} {w w' : World} {B : Nat} {v : Value} {d : List e.D} {xs : List Value} (h : RowsAp t e w B v d xs) (hb : Below w.heap.size w w') : RowsAp t e w' B v d xs := by
  obtain ⟨h0, f, h1, h2, h3, h4⟩ := h
  exact ⟨owns_below h0 hb (Nat.le_refl _), f, fun i x hx => e.ow_frame (h1 i x hx) (fun q hq => hb.block q (e.ow_lt (h1 i x hx) q hq).2) hb.size, h2, h3, h4⟩
theorem RowsAp.own {t : TypeId} {e : Ty} {w : World} {B : Nat} {v : Value} {d : List e.D} {xs : List Value} (he : e.n = 1) (h : RowsAp t e w B v d xs) : OwN (tSl t e) w B w.heap.size [v] d := by
  obtain ⟨h0, f, h1, h2, h3, h4⟩ := h
  have hl := h0.1
  rw [Nat.mul_one] at hl
  refine ⟨v.ownBlock.toList ++ (List.range d.length).flatMap f, ⟨v, xs, f, rfl, by rw [he]; exact h0, fun i x hx => ?_, rfl⟩, List.nodup_append.2 ⟨by cases v.ownBlock <;> simp, flat_nodup_of _ h2 h3, fun a ha b hb e => ?_⟩, fun q hq => ?_, Nat.le_refl _⟩
  · have hi := (List.getElem?_eq_some_iff.1 hx).1
    rw [he, Nat.mul_one, List.drop_eq_getElem_cons (by omega : i < xs.length)]
    have h5 := h1 i x hx
    rw [List.getD_eq_getElem?_getD, List.getElem?_eq_getElem (by omega : i < xs.length)] at h5
    exact h5
  · subst e
    obtain ⟨i, hi, hq⟩ := List.mem_flatMap.1 hb
    refine h4 i (List.mem_range.1 hi) a hq ?_
    cases hv : v.ownBlock with
    | none => rw [hv] at ha; cases ha
    | some z => rw [hv] at ha; simp at ha; rw [ha]
  · rcases List.mem_append.1 hq with hq | hq
    · cases hv : v.ownBlock with
      | none => rw [hv] at hq; cases hq
      | some z => rw [hv] at hq; simp at hq; subst hq; exact (h0.lt _ hv).2
    · obtain ⟨i, hi, hq⟩ := List.mem_flatMap.1 hq
      exact (e.ow_lt (h1 i _ (List.getElem?_eq_getElem (List.mem_range.1 hi))) q hq).2
theorem RowsAp.push {t : TypeId} {e : Ty} {w1 w2 w3 : World} {B : Nat} {v vv rv : Value} {d : List e.D} {xs : List Value} {x : e.D} (h : RowsAp t e w1 B v d xs) (hb : Below w1.heap.size w1 w2) (ho : OwN e w2 w1.heap.size w2.heap.size [rv] x) (hB : B ≤ w1.heap.size)
    (hg : w2.grownBy w3 v.ownBlock) (hown : w3.ownsRow B t 1 vv (d.length + 1) (xs ++ [rv])) (hat : ∀ q, vv.ownBlock = some q → v.ownBlock = some q ∨ w2.heap.size ≤ q) : RowsAp t e w3 B vv (d ++ [x]) (xs ++ [rv]) := by
  obtain ⟨h0, f, h1, h2, h3, h4⟩ := h
  obtain ⟨bs, b1, b2, b3, _⟩ := ho
  have b4 := e.ow_lt b1
  have hsz := hb.size
  obtain ⟨_, _, _, hs3, hk⟩ := hg
  have hl := h0.1
  rw [Nat.mul_one] at hl
  have hvlt : ∀ q, v.ownBlock = some q → q < w1.heap.size := fun q hq => (h0.lt q hq).2
  obtain ⟨F, hF1, hF2⟩ : ∃ F : Nat → List Nat, F d.length = bs ∧ ∀ i, i ≠ d.length → F i = f i := ⟨fun i => if i = d.length then bs else f i, if_pos rfl, fun i h => if_neg h⟩
  have hdl : (d ++ [x]).length = d.length + 1 := by simp
  have hlt : ∀ i, i < d.length → ∀ q, q ∈ f i → q < w1.heap.size := fun i hi q hq => (e.ow_lt (h1 i _ (List.getElem?_eq_getElem hi)) q hq).2
  refine ⟨by rw [hdl]; exact hown, F, fun i y hy => ?_, fun i hi => ?_, fun i k hi hkk hik q hq => ?_, fun i hi q hq => ?_⟩
  · by_cases e1 : i = d.length
    · subst e1
      have hyx : y = x := by simpa using hy.symm
      subst hyx
      rw [hF1]
      have e2 : (xs ++ [rv]).getD d.length undef = rv := by rw [← hl]; simp [List.getD_eq_getElem?_getD]
      rw [e2]
      exact e.ow_mono (e.ow_frame b1 (fun q hq => hk q (b4 q hq).2 (fun e => by have h7 := hvlt q e.symm; have := (b4 q hq).1; omega)) hs3) hB
    · have hi : i < d.length := by have := (List.getElem?_eq_some_iff.1 hy).1; omega
      rw [hF2 i e1]
      have e2 : (xs ++ [rv]).getD i undef = xs.getD i undef := by simp [List.getD_eq_getElem?_getD, List.getElem?_append_left (show i < xs.length by omega)]
      rw [e2]
      have hy2 : d[i]? = some y := by rw [List.getElem?_append_left hi] at hy; exact hy
      refine e.ow_frame (h1 i y hy2) (fun q hq => ?_) (Nat.le_trans hsz hs3)
      have h5 := hlt i hi q hq
      exact (hk q (by omega) (fun e => h4 i hi q hq e.symm)).trans (hb.block q h5)
  · by_cases e1 : i = d.length
    · rw [e1, hF1]; exact b2
    · rw [hF2 i e1]; exact h2 i (by omega)
  · by_cases e1 : i = d.length
    · rw [e1, hF1] at hq
      rw [hF2 k (by omega)]
      intro hq2
      have := hlt k (by omega) q hq2
      have := (b4 q hq).1
      omega
    · rw [hF2 i e1] at hq
      have h5 := hlt i (by omega) q hq
      by_cases e2 : k = d.length
      · rw [e2, hF1]; intro hq2; have := (b4 q hq2).1; omega
      · rw [hF2 k e2]; exact h3 i k (by omega) (by omega) hik q hq
  · intro e3
    by_cases e1 : i = d.length
    · rw [e1, hF1] at hq
      have h5 := b4 q hq
      rcases hat q e3 with h6 | h6
      · have := hvlt q h6; omega
      · omega
    · rw [hF2 i e1] at hq
      rcases hat q e3 with h6 | h6
      · exact h4 i (by omega) q hq h6
      · have := hlt i (by omega) q hq; omega
end Go.Proofs.Ytmhkkdnopcdibaa
set_option linter.unusedVariables false
namespace Go.Proofs.Ytmhkkdnopcdibaa
open Go.RowKit

theorem Cur.belowW {B base : Nat} {a : Option Addr} {len cap : Nat} {g : Nat → Nat} {w w' : World} (h : Cur B a len cap g w) (hb : Below base w w') (hB : B < base) : Cur B a len cap g w' := by
  obtain ⟨i, x, hh, hi⟩ := h.blk
  refine ⟨⟨i, x, (hb.block B hB).trans hh, hi⟩, fun h0 => ?_, h.low, h.small, h.fits⟩
  obtain ⟨b, off, h1, h2⟩ := h.row h0
  have := h.low h0 b off h1
  exact ⟨b, off, h1, fun i hi => (hb.cell (p := ⟨b, off + i, none⟩) (show b < base by omega)).trans (h2 i hi)⟩
theorem Cur.ltW {B : Nat} {a : Option Addr} {len cap : Nat} {g : Nat → Nat} {w : World} (h : Cur B a len cap g w) : B < w.heap.size := by
  obtain ⟨i, x, hh, hi⟩ := h.blk
  exact (Array.getElem?_eq_some_iff.1 hh).1
def drawnL (L : List Int) : Prop := L.head? = some 1 ∧ (∀ i, 0 < i → i < L.length → 2 ≤ getI L i ∧ getI L i ≤ 7) ∧ ∀ i j, i < j → j < L.length → getI L i ≠ getI L j
theorem getI_last (L : List Int) (x : Int) : getI (L ++ [x]) L.length = x := by simp [getI]
theorem getI_left (L : List Int) (x : Int) (i : Nat) (h : i < L.length) : getI (L ++ [x]) i = getI L i := by
  simp only [getI, List.getD_eq_getElem?_getD]; rw [List.getElem?_append_left h]
theorem drawnL.push {L : List Int} {x : Int} (h : drawnL L) (hx : 2 ≤ x ∧ x ≤ 7) (hn : ¬ hasP (getI L) x L.length) : drawnL (L ++ [x]) := by
  obtain ⟨h1, h2, h3⟩ := h
  have hl : 0 < L.length := by cases L with
    | nil => simp at h1
    | cons _ _ => simp
  refine ⟨by rw [List.head?_append]; rw [h1]; rfl, fun i h0 hi => ?_, fun i j hij hj => ?_⟩
  · simp only [List.length_append, List.length_cons, List.length_nil] at hi
    by_cases e : i = L.length
    · rw [e, getI_last]; exact hx
    · rw [getI_left _ _ _ (by omega)]; exact h2 i h0 (by omega)
  · simp only [List.length_append, List.length_cons, List.length_nil] at hj
    rw [getI_left _ _ i (by omega)]
    by_cases e : j = L.length
    · rw [e, getI_last]; exact fun he => hn ⟨i, by omega, he⟩
    · rw [getI_left _ _ j (by omega)]; exact h3 i j hij (by omega)
def RulesGood (win : Int) (L : List Int) : Prop := (win = 2 ∨ win = 3) ∧ ∃ K, L = K ++ [8] ∧ drawnL K ∧ K.length ≤ 4
def DrawS (B : Nat) (a : Option Addr) (len cap : Nat) (g : Nat → Nat) (w0 : World) (D : Nat) (win : Int) (ag : Bool) (L : List Int) (w : World) : Prop :=
  ∃ v, Cur B a len cap g w ∧ w.heap[D]? = some (.cells #[.int .i64 win, .int .i64 1, .int .i64 0, v, .bool ag] 70 (0, 0)) ∧
    w.ownsRow (w0.heap.size + 1) 3 1 v L.length (L.map (Value.int .i64)) ∧ v.ownBlock ≠ some D ∧ (∃ aa cc, v = .slice aa L.length cc) ∧ w0.grownBy w (some B) ∧ B < w0.heap.size ∧ w0.heap.size + 1 ≤ D ∧
    w.heap[w0.heap.size]? = some (.cells #[.int .i64 0, .int .i64 0, .int .i64 0, .slice none 0 0, .bool false] 70 (0, 0))
def RulesDrawn (B : Nat) (a : Option Addr) (len cap : Nat) (g : Nat → Nat) (w : World) (e : Ending) (w' : World) : Prop :=
  ∃ v win ag L, e = .returned (.agg #[.int .i64 win, .int .i64 1, .int .i64 0, v, .bool ag]) ∧ RulesGood win L ∧ w'.ownsRow w.heap.size 3 1 v L.length (L.map (Value.int .i64)) ∧ Cur B a len cap g w' ∧ w.grownBy w' (some B)
theorem World.grownBy_set (w : World) (B j : Nat) (z : Value) : w.grownBy (w.setCell ⟨B, j, none⟩ z) (some B) := grown_set w B j z
theorem grown_to {w0 w w' : World} {B : Nat} (h : w0.grownBy w (some B)) (hb : Below w.heap.size w w') : w0.grownBy w' (some B) :=
  grown_trans h ⟨hb.os, hb.tape, hb.output, hb.size, fun k hk _ => hb.block k hk⟩
section
variable {B : Nat} {a : Option Addr} {len cap : Nat} {g : Nat → Nat} {w0 : World} {D : Nat} {win : Int} {ag : Bool} {L : List Int} {w w' : World}
theorem DrawS.cur (h : DrawS B a len cap g w0 D win ag L w) : Cur B a len cap g w := h.choose_spec.1
theorem DrawS.drawn (h : DrawS B a len cap g w0 D win ag L w) (hc : Cur B a len cap g w') (hg : w.grownBy w' (some B)) : DrawS B a len cap g w0 D win ag L w' := by
  obtain ⟨v, h1, h2, h3, h4, h5, h6, h7, h8, h9⟩ := h
  have hD : D < w.heap.size := (Array.getElem?_eq_some_iff.1 h2).1
  refine ⟨v, hc, (hg.block D hD (by intro e; simp at e; omega)).trans h2, h3.kept hg ?_, h4, h5, grown_trans h6 hg, h7, h8, (hg.block _ (by omega) (by intro e; simp at e; omega)).trans h9⟩
  cases hv : v.ownBlock with
  | none => exact .inl rfl
  | some k =>
    refine .inr fun e => ?_
    have := (h3.lt k hv).1
    simp at e; omega
theorem DrawS.open (h : DrawS B a len cap g w0 D win ag L w) (hL : L.length ≤ 9) :
    ∃ v, w.cell? ⟨D, 0, none⟩ = some (.int .i64 win) ∧ w.cell? ⟨D, 1, none⟩ = some (.int .i64 1) ∧ w.cell? ⟨D, 2, none⟩ = some (.int .i64 0) ∧ w.cell? ⟨D, 3, none⟩ = some v ∧ w.cell? ⟨D, 4, none⟩ = some (.bool ag) ∧
      w.frozen? ⟨D, 3, none⟩ = false ∧ IntRow w v L.length (getI L) ∧ w.ownsRow (w0.heap.size + 1) 3 1 v L.length (L.map (Value.int .i64)) ∧ (∃ aa cc, v = .slice aa L.length cc) ∧ w0.heap.size + 1 ≤ w.heap.size ∧ (w0.heap.size + 1 ≤ D ∧ v.ownBlock ≠ some D ∧ D < w.heap.size) ∧ (∀ w', w.grownBy w' v.ownBlock → w'.heap[D]? = some (.cells #[.int .i64 win, .int .i64 1, .int .i64 0, v, .bool ag] 70 (0, 0)) ∧ w'.heap[w0.heap.size]? = some (.cells #[.int .i64 0, .int .i64 0, .int .i64 0, .slice none 0 0, .bool false] 70 (0, 0))) ∧
      ∀ x v' w', w'.ownsRow (w0.heap.size + 1) 3 1 v' (L.length + 1) (L.map (Value.int .i64) ++ [.int .i64 x]) → w.grownBy w' v.ownBlock →
        (∃ gg cc, v' = .slice (some ⟨gg, 0, none⟩) (L.length + 1) cc ∧ (v.ownBlock = some gg ∨ w.heap.size ≤ gg)) → DrawS B a len cap g w0 D win ag (L ++ [x]) (w'.setCell ⟨D, 3, none⟩ v') := by
  obtain ⟨v, h1, h2, h3, h4, h5, h6, h7, h8, h9⟩ := h
  have hD : D < w.heap.size := (Array.getElem?_eq_some_iff.1 h2).1
  have c : ∀ j, w.cell? ⟨D, j, none⟩ = #[.int .i64 win, .int .i64 1, .int .i64 0, v, .bool ag][j]? := fun j => cell_of_row w D j _ _ (0, 0) h2
  have hk : ∀ w', w.grownBy w' v.ownBlock → w'.heap[D]? = w.heap[D]? := fun w' hg => hg.block D hD (fun e => h4 e.symm)
  have hkR : ∀ w', w.grownBy w' v.ownBlock → w'.heap[w0.heap.size]? = w.heap[w0.heap.size]? := fun w' hg => hg.block _ (by omega) (fun e => by have := (h3.lt _ e.symm).1; omega)
  refine ⟨v, c 0, c 1, c 2, c 3, c 4, frozen_of_row w D 3 _ _ h2, IntRow.of_list h3 (by omega), h3, h5, Nat.le_trans h8 (by omega), ⟨h8, h4, hD⟩, fun w' hg => ⟨(hk w' hg).trans h2, (hkR w' hg).trans h9⟩, fun x v' w' o' hg hv' => ?_⟩
  obtain ⟨gg, cc, rfl, hat⟩ := hv'
  have hgD : gg ≠ D := by
    rcases hat with h9 | h9
    · intro e; exact h4 (by rw [h9, e])
    · omega
  have hw9 : w'.heap[D]? = _ := (hk w' hg).trans h2
  have hB : w0.heap.size ≤ w.heap.size := h6.size
  have hbel : Below w0.heap.size w (w'.setCell ⟨D, 3, none⟩ (.slice (some ⟨gg, 0, none⟩) (L.length + 1) cc)) :=
    ((Below.refl _ _).grown hg hB (fun k hk => by have := (h3.lt k hk).1; omega)).setCell (by show w0.heap.size ≤ D; omega) _
  refine ⟨.slice (some ⟨gg, 0, none⟩) (L.length + 1) cc, h1.belowW hbel h7, ?_, ?_, ?_, ⟨some ⟨gg, 0, none⟩, cc, by simp⟩, ?_, h7, h8, ?_⟩
  · rw [heap_setCell_same w' D 3 _ _ _ hw9]; rfl
  · have := (o'.kept (World.grownBy_set w' D 3 (.slice (some ⟨gg, 0, none⟩) (L.length + 1) cc)) (.inr fun e => hgD (by simpa [Value.ownBlock] using e)))
    simpa using this
  · intro e; exact hgD (by simpa [Value.ownBlock] using e)
  · exact ⟨hbel.os.trans h6.os, hbel.tape.trans h6.tape, hbel.output.trans h6.output, Nat.le_trans hB hbel.size, fun k hk hne => (hbel.block k hk).trans (h6.block k hk hne)⟩
  · rw [Below.heap_setCell _ _ _ _ (by show w0.heap.size ≠ D; omega), hkR w' hg]; exact h9
theorem DrawS.grown (h : DrawS B a len cap g w0 D win ag L w) : w0.grownBy w (some B) ∧ B < w0.heap.size := by
  obtain ⟨v, h1, h2, h3, h4, h5, h6, h7, _⟩ := h
  exact ⟨h6, h7⟩
theorem drawn_end {w5 w9 : World} {V : Value} {x : Nat} (hx : x < 2) (hL : drawnL L) (hLl : L.length ≤ 4) (h : DrawS B a len cap g w0 D win ag (L ++ [8]) w5) (ho : w9.ownsRow (w0.heap.size + 1) 3 1 V (L.length + 1) (L.map (Value.int .i64) ++ [.int .i64 8]))
    (hb : Below w0.heap.size w5 w9) : RulesDrawn B a len cap g w0 (.returned (.agg #[.int .i64 (2 + (x : Int)), .int .i64 1, .int .i64 0, V, .bool ag])) w9 := by
  obtain ⟨h6, h7⟩ := h.grown
  refine ⟨V, _, ag, L ++ [8], rfl, ⟨by omega, L, rfl, hL, hLl⟩, ?_, h.cur.belowW hb h7, hb.os.trans h6.os, hb.tape.trans h6.tape, hb.output.trans h6.output, Nat.le_trans h6.size hb.size, fun k hk hne => (hb.block k hk).trans (h6.block k hk hne)⟩
  have := owns_mono ho (base' := w0.heap.size) (by omega)
  simpa using this
end
def RulesIs (w : World) (e : Ending) (w' : World) : Prop :=
  ∃ v win ag L, e = .returned (.agg #[.int .i64 win, .int .i64 1, .int .i64 0, v, .bool ag]) ∧ RulesGood win L ∧ w'.ownsRow w.heap.size 3 1 v L.length (L.map (Value.int .i64)) ∧ Below w.heap.size w w'
end Go.Proofs.Ytmhkkdnopcdibaa
set_option linter.unusedVariables false
namespace Go.Proofs.Ytmhkkdnopcdibaa
open Go.RowKit

theorem OwN.rdA {T : Ty} {w : World} {lo hi : Nat} {cs : List Value} {d : T.D} (h : OwN T w lo hi cs d) : RdA T w cs d := h.rd.all h.hi_le
def Bnd (T : Ty) (c : Nat) : Prop := ∀ d, T.mks d ≤ c * (T.wt d + 1)
theorem bnd_int : Bnd tInt 1 := fun d => by show 1 ≤ 1 * (0 + 1); omega
theorem bnd_bool : Bnd tBool 1 := fun d => by show 1 ≤ 1 * (0 + 1); omega
theorem bnd_str : Bnd tStr 1 := fun d => by show 1 ≤ 1 * (d.size + 1); omega
theorem bnd_two {a b : Ty} {ca cb : Nat} (ha : Bnd a ca) (hb : Bnd b cb) : Bnd (tTwo a b) (ca + cb) := fun d => by
  have h1 := ha d.1
  have h2 := hb d.2
  show a.mks d.1 + b.mks d.2 ≤ (ca + cb) * (a.wt d.1 + b.wt d.2 + 1)
  have h3 : ca * (a.wt d.1 + 1) ≤ ca * (a.wt d.1 + b.wt d.2 + 1) := Nat.mul_le_mul_left _ (by omega)
  have h4 : cb * (b.wt d.2 + 1) ≤ cb * (a.wt d.1 + b.wt d.2 + 1) := Nat.mul_le_mul_left _ (by omega)
  rw [Nat.add_mul]
  omega
theorem bnd_sl {t : TypeId} {e : Ty} {c : Nat} (h : Bnd e c) : Bnd (tSl t e) c := fun d => by
  have key : ∀ L : List e.D, (L.map e.mks).sum ≤ c * (L.length + (L.map e.wt).sum) := by
    intro L
    induction L with
    | nil => exact Nat.zero_le _
    | cons x L ih =>
      have := h x
      rw [List.map_cons, List.sum_cons, List.map_cons, List.sum_cons, List.length_cons]
      have e1 : c * (L.length + 1 + (e.wt x + (L.map e.wt).sum)) = c * (e.wt x + 1) + c * (L.length + (L.map e.wt).sum) := by rw [← Nat.mul_add]; congr 1; omega
      omega
  exact Nat.le_trans (key d) (Nat.mul_le_mul_left _ (Nat.le_succ _))
theorem Bnd.le {T : Ty} {c : Nat} (h : Bnd T c) {d : T.D} (hw : T.wt d ≤ 1048576) (hc : c ≤ 1000) : T.mks d ≤ 2000000000 := by
  have h1 := h d
  have h2 : c * (T.wt d + 1) ≤ 1000 * 1048577 := Nat.mul_le_mul hc (by omega)
  omega
end Go.Proofs.Ytmhkkdnopcdibaa
