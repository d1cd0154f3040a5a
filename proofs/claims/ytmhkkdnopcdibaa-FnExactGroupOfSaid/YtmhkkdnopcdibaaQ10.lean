/-
  Packed: Draw4, Fam, Draw5.
-/
import Derived.Deep.OwnRows
import Derived.Deep.RegionHeld3
import Derived.Deep.RegionLaw
import Derived.Deep.AppendLies
import Derived.Test.YtmhkkdnopcdibaaQ2
import Derived.Test.YtmhkkdnopcdibaaQ4
import Derived.Test.YtmhkkdnopcdibaaQ9
set_option linter.unusedVariables false
namespace Go.Proofs.Ytmhkkdnopcdibaa
open Go.RowKit

def potAt : List (List Int) → Nat → Nat
  | [], _ => 0
  | r :: T, i => if i < r.length then 0 else potAt T (i - r.length) + 1
def teamAt (T : List (List Int)) (i : Nat) : Nat := (getI T.flatten i).toNat
def drwD (F : Nat → TeamD) (T : List (List Int)) (gr most : Int) : DrwD :=
  { fb := 0, fo := 0, nf := 0, fc := 0, tb := 0, to := 0, tc := 0, pb := 0, po := 0, pc := 0, gb := 0, gcap := 0, cb := 0, ccap := 0, N := T.flatten.length, G := gr.toNat, NP := T.length, r := id, rc := id, q := id, qc := id, team := teamAt T, pot := potAt T, cl := fun i => (F (teamAt T i)).club.toNat, most := most }
structure DrwEq (d d' : DrwD) : Prop where
  N : d.N = d'.N
  G : d.G = d'.G
  pot : d.pot = d'.pot
  cl : d.cl = d'.cl
  most : d.most = d'.most
  team : d.team = d'.team
theorem DrwEq.fit {d d' : DrwD} (h : DrwEq d d') : fitB d = fitB d' := by
  funext P C i g
  unfold fitB
  rw [h.pot, h.cl, h.most]
theorem DrwEq.putP {d d' : DrwD} (h : DrwEq d d') : putP d = Go.Proofs.Ytmhkkdnopcdibaa.putP d' := by
  funext P i g on a b
  unfold Go.Proofs.Ytmhkkdnopcdibaa.putP
  rw [h.pot]
theorem DrwEq.putC {d d' : DrwD} (h : DrwEq d d') : putC d = Go.Proofs.Ytmhkkdnopcdibaa.putC d' := by
  funext C i g on a b
  unfold Go.Proofs.Ytmhkkdnopcdibaa.putC
  rw [h.cl]
theorem DrwEq.cnt {d d' : DrwD} (h : DrwEq d d') : cntF d = cntF d' := by
  funext f
  induction f with
  | zero =>
    funext P C i
    show (if i = d.N then 1 else 0) = if i = d'.N then 1 else 0
    rw [h.N]
  | succ f IH =>
    funext P C i
    show (if i = d.N then 1 else sumNN (fun g => if fitB d P C i g = true then cntF d f (Go.Proofs.Ytmhkkdnopcdibaa.putP d P i g true) (Go.Proofs.Ytmhkkdnopcdibaa.putC d C i g true) (i + 1) else 0) d.G) = (if i = d'.N then 1 else sumNN (fun g => if fitB d' P C i g = true then cntF d' f (Go.Proofs.Ytmhkkdnopcdibaa.putP d' P i g true) (Go.Proofs.Ytmhkkdnopcdibaa.putC d' C i g true) (i + 1) else 0) d'.G)
    rw [h.N, h.G, h.fit, h.putP, h.putC, IH]
theorem DrwEq.begF {d d' : DrwD} (h : DrwEq d d') : ∀ (L : List Int) (i : Nat) (P : Nat → Nat → Bool) (C : Nat → Nat → Int), begF d L i P C = Go.Proofs.Ytmhkkdnopcdibaa.begF d' L i P C
  | [], _, _, _ => rfl
  | x :: L, i, P, C => by
    rw [begF_cons, begF_cons, h.G, h.fit, h.putP, h.putC, DrwEq.begF h L]
theorem DrwEq.beg {d d' : DrwD} (h : DrwEq d d') : begB d = begB d' := by
  funext L P C
  unfold begB
  rw [h.N, h.begF]
def noP : Nat → Nat → Bool := fun _ _ => false
def noC : Nat → Nat → Int := fun _ _ => 0
theorem clubB.none (d : DrwD) : clubB d noC 0 := fun g k _ _ => ⟨Int.le_refl _, Int.le_refl _⟩
def NewM (w : World) (D : DrwD) (e : Ending) (w' : World) : Prop :=
  ∃ (lo hi X : Nat) (d : DrwD), e = .returned (.pointer (some ⟨X, 0, none⟩)) ∧ DrwEq d D ∧ DrwAt w' lo hi X d noP noC ∧ Below w.heap.size w w' ∧ w.heap.size ≤ lo
def NewC : Prop := ∀ (vf : Value) (nf : Nat) (F : Nat → TeamD) (vp : Value) (gr most : Int) (T : List (List Int)) (w : World), TeamRow w vf nf F → RdA tIntSS w [vp] T → tIntSS.wt T ≤ 1048576 → potsP nf F T gr most →
  Calls Try.prog 65 #[vf, .agg #[vp, .int .i64 gr, .int .i64 most]] w (NewM w (drwD F T gr most))
def isB (F : Nat → TeamD) (T : List (List Int)) (gr most : Int) (L : List Int) : Bool := decide (L.length = T.flatten.length) && (begB (drwD F T gr most) L noP noC).isSome
set_option maxRecDepth 100000 in
set_option maxHeartbeats 4000000 in
theorem isDraw_spec (hN : NewC) (vf : Value) (nf : Nat) (F : Nat → TeamD) (vp : Value) (gr most : Int) (T : List (List Int)) (vd : Value) (L : List Int) (R : Bool) (w : World) (hR : R = true ↔ potsP nf F T gr most ∧ isB F T gr most L = true) (hf : TeamRow w vf nf F) (hs : ∀ i, (F i).nm.size ≤ maxLen) (h : RdA tIntSS w [vp] T) (hw : tIntSS.wt T ≤ 1048576) (hd : IntRow w vd L.length (getI L)) :
    Calls Try.prog 29 #[vf, .agg #[vp, .int .i64 gr, .int .i64 most], vd] w fun e w' => e = .returned (.bool R) ∧ Below w.heap.size w w' := by
  obtain ⟨pa, pc, rfl, hpn⟩ := pots_form h
  obtain ⟨da, dc, rfl, hdn, _⟩ := hd.form
  obtain ⟨r1, hr1⟩ := boolEx (potsP nf F T gr most)
  obtain ⟨U, hU⟩ : ∃ U, w.alloc (.cells #[.slice pa (List.length (α := List Int) T) pc, .int .i64 gr, .int .i64 most] 26) = U := ⟨_, rfl⟩
  have bU : Below w.heap.size w U := by rw [← hU]; exact (Below.refl _ _).alloc (Nat.le_refl _) _
  have HS : Hid (PotsAt U w.heap.size pa (List.length (α := List Int) T) pc gr most T) := by rw [← hU]; exact PotsAt.made h
  have HB := Lib.hid bU
  have HD : Hid (IntRow U (.slice da L.length dc) L.length (getI L)) := hd.below bU (Nat.le_refl _)
  have HF : Hid (TeamRow U vf nf F) := hf.below bU (Nat.le_refl _)
  have CF := Lib.hid (potsOk_spec vf nf F (.slice pa (List.length (α := List Int) T) pc) gr most T r1 U hr1 HF.out hs HS.out.2 hw)
  have CN : Hid (∀ wa, TeamRow wa vf nf F → RdA tIntSS wa [.slice pa (List.length (α := List Int) T) pc] T → potsP nf F T gr most → Calls Try.prog 65 #[vf, .agg #[.slice pa (List.length (α := List Int) T) pc, .int .i64 gr, .int .i64 most]] wa (NewM wa (drwD F T gr most))) := fun wa h1 h2 h3 => hN _ _ _ _ _ _ _ wa h1 h2 hw h3
  have HR1 := Lib.hid hr1
  have HRR := Lib.hid hR
  obtain ⟨m, hm⟩ : ∃ m, L.length = m := ⟨_, rfl⟩
  have HM := Lib.hid hm
  obtain ⟨np, hnp⟩ : ∃ np, List.length (α := List Int) T = np := ⟨_, rfl⟩
  rw [hm] at hdn HD ⊢
  rw [hnp] at hU HS CF CN ⊢
  have c0 := HS.out.1.2 0 _ rfl
  have c1 := HS.out.1.2 1 _ rfl
  have c2 := HS.out.1.2 2 _ rfl
  clear h hf hR hr1 hd bU hw hs hN hm hnp hpn
  go_enter Try.func29, Try.ntmps29
  go_wp2_with fail
  clear hU c0 c1 c2
  refine CF.out.mono ?_
  rintro e w1 ⟨rfl, b⟩
  have HS1 := Lib.hid (HS.out.below b)
  have HF1 := Lib.hid (HF.out.below b (Nat.le_refl _))
  have HD1 := Lib.hid (HD.out.below b (Nat.le_refl _))
  have HB1 := Lib.hid (HB.out.trans (b.mono HB.out.size))
  clear b HS HB CF HF HD
  have c0 := HS1.out.1.2 0 _ rfl
  have c1 := HS1.out.1.2 1 _ rfl
  have c2 := HS1.out.1.2 2 _ rfl
  cases r1 with
  | false =>
    obtain rfl : R = false := boolF HRR.out fun h => by have := HR1.out.2 h.1; cases this
    go_wp2
    go_ret
    exact ⟨rfl, HB1.out⟩
  | true =>
  have HP := Lib.hid (HR1.out.1 rfl)
  have HRE : Hid (R = isB F T gr most L) := by
    show _ = _
    cases hx : isB F T gr most L with
    | true => exact HRR.out.2 ⟨HP.out, hx⟩
    | false => exact boolF HRR.out fun h => by rw [hx] at h; cases h.2
  have CN1 := Lib.hid (CN.out w1 HF1.out HS1.out.2 HP.out)
  clear HR1 HRR CN
  go_wp2_with fail
  clear c0 c1 c2
  refine CN1.out.mono ?_
  rintro e w2 ⟨lo, hi, X, d, rfl, hq, hdr, b, hlo⟩
  have HB2 := Lib.hid (HB1.out.trans (b.mono HB1.out.size))
  have HDr := Lib.hid hdr
  have HD2 : Hid (IntRow w2 (.slice da m dc) m (getI L)) := HD1.out.below b (Nat.le_refl _)
  have HIN : Hid (0 < m → InW 0 lo (.slice da m dc)) := fun h0 => InW.nat HD1.out h0 hlo
  have HLO : Hid (w.heap.size ≤ lo) := Nat.le_trans HB1.out.size hlo
  have HSZ : Hid (w.heap.size ≤ w2.heap.size) := HB2.out.size
  have CB := Lib.hid (l12Begin_spec lo hi X d noP noC (.slice da m dc) L w2 hdr (clubB.none d) (by rw [HM.out]; exact HD2.out) (by rw [HM.out]; exact HIN.out))
  have HQ := Lib.hid hq
  have c2 := hdr.box.2 2 _ rfl
  have HNN : Hid (d.N = T.flatten.length) := hq.N
  clear hdr hq b hlo CN1
  rw [HQ.out.beg] at CB
  have HRx : Hid (R = (decide (m = d.N) && (begB (drwD F T gr most) L noP noC).isSome)) := by show _ = _; rw [HRE.out, HNN.out, ← HM.out]; rfl
  obtain ⟨bb, hbb⟩ : ∃ bb, begB (drwD F T gr most) L noP noC = bb := ⟨_, rfl⟩
  rw [hbb] at CB HRx
  clear hbb HRE
  generalize d.N = N at *
  by_cases hmN : m = N
  · have g1 : ((m : Int) == (N : Int)) = true := by simp [hmN]
    have HRy : Hid (R = bb.isSome) := by show _ = _; rw [HRx.out, decide_eq_true hmN]; rfl
    clear HRx hmN
    go_wp2_with fail
    refine CB.out.mono ?_
    rintro e w3 ⟨rfl, ht, _⟩
    have HB3 := Lib.hid (HB2.out.trans (ht.below HLO.out HSZ.out))
    clear ht CB
    go_wp2
    go_ret
    exact ⟨by rw [HRy.out]; rfl, HB3.out⟩
  · have g1 : ((m : Int) == (N : Int)) = false := by simp; omega
    obtain rfl : R = false := by rw [HRx.out, decide_eq_false hmN]; rfl
    clear hmN HRx
    go_wp2_with fail
    go_ret
    exact ⟨rfl, HB2.out⟩
def cdN (F : Nat → TeamD) (T : List (List Int)) (gr most : Int) (L : List Int) : Int := match begB (drwD F T gr most) L noP noC with | some (P, C) => (cntF (drwD F T gr most) (T.flatten.length - L.length) P C L.length : Nat) | none => 0
set_option maxRecDepth 100000 in
set_option maxHeartbeats 4000000 in
theorem countDraws_spec (hN : NewC) (vf : Value) (nf : Nat) (F : Nat → TeamD) (vp : Value) (gr most : Int) (T : List (List Int)) (vd : Value) (L : List Int) (R : Int) (w : World) (hR : potsP nf F T gr most → R = cdN F T gr most L) (hR0 : ¬ potsP nf F T gr most → R = 0) (hf : TeamRow w vf nf F) (hs : ∀ i, (F i).nm.size ≤ maxLen) (h : RdA tIntSS w [vp] T) (hw : tIntSS.wt T ≤ 1048576) (hd : IntRow w vd L.length (getI L)) :
    Calls Try.prog 32 #[vf, .agg #[vp, .int .i64 gr, .int .i64 most], vd] w fun e w' => e = .returned (.int .i64 R) ∧ Below w.heap.size w w' := by
  obtain ⟨pa, pc, rfl, hpn⟩ := pots_form h
  obtain ⟨da, dc, rfl, hdn, _⟩ := hd.form
  obtain ⟨r1, hr1⟩ := boolEx (potsP nf F T gr most)
  obtain ⟨U, hU⟩ : ∃ U, w.alloc (.cells #[.slice pa (List.length (α := List Int) T) pc, .int .i64 gr, .int .i64 most] 26) = U := ⟨_, rfl⟩
  have bU : Below w.heap.size w U := by rw [← hU]; exact (Below.refl _ _).alloc (Nat.le_refl _) _
  have HS : Hid (PotsAt U w.heap.size pa (List.length (α := List Int) T) pc gr most T) := by rw [← hU]; exact PotsAt.made h
  have HB := Lib.hid bU
  have HD : Hid (IntRow U (.slice da L.length dc) L.length (getI L)) := hd.below bU (Nat.le_refl _)
  have HF : Hid (TeamRow U vf nf F) := hf.below bU (Nat.le_refl _)
  have CF := Lib.hid (potsOk_spec vf nf F (.slice pa (List.length (α := List Int) T) pc) gr most T r1 U hr1 HF.out hs HS.out.2 hw)
  have CN : Hid (∀ wa, TeamRow wa vf nf F → RdA tIntSS wa [.slice pa (List.length (α := List Int) T) pc] T → potsP nf F T gr most → Calls Try.prog 65 #[vf, .agg #[.slice pa (List.length (α := List Int) T) pc, .int .i64 gr, .int .i64 most]] wa (NewM wa (drwD F T gr most))) := fun wa h1 h2 h3 => hN _ _ _ _ _ _ _ wa h1 h2 hw h3
  have HR1 := Lib.hid hr1
  have HRR := Lib.hid hR
  have HR0 := Lib.hid hR0
  obtain ⟨m, hm⟩ : ∃ m, L.length = m := ⟨_, rfl⟩
  have HM := Lib.hid hm
  obtain ⟨np, hnp⟩ : ∃ np, List.length (α := List Int) T = np := ⟨_, rfl⟩
  rw [hm] at hdn HD ⊢
  rw [hnp] at hU HS CF CN ⊢
  have c0 := HS.out.1.2 0 _ rfl
  have c1 := HS.out.1.2 1 _ rfl
  have c2 := HS.out.1.2 2 _ rfl
  clear h hf hR hR0 hr1 hd bU hw hs hN hm hnp hpn
  go_enter Try.func32, Try.ntmps32
  go_wp2_with fail
  clear hU c0 c1 c2
  refine CF.out.mono ?_
  rintro e w1 ⟨rfl, b⟩
  have HS1 := Lib.hid (HS.out.below b)
  have HF1 := Lib.hid (HF.out.below b (Nat.le_refl _))
  have HD1 := Lib.hid (HD.out.below b (Nat.le_refl _))
  have HB1 := Lib.hid (HB.out.trans (b.mono HB.out.size))
  clear b HS HB CF HF HD
  have c0 := HS1.out.1.2 0 _ rfl
  have c1 := HS1.out.1.2 1 _ rfl
  have c2 := HS1.out.1.2 2 _ rfl
  cases r1 with
  | false =>
    obtain rfl : R = 0 := HR0.out fun h => by have := HR1.out.2 h; cases this
    go_wp2
    go_ret
    exact ⟨rfl, HB1.out⟩
  | true =>
  have HP := Lib.hid (HR1.out.1 rfl)
  have HRE : Hid (R = cdN F T gr most L) := HRR.out HP.out
  have CN1 := Lib.hid (CN.out w1 HF1.out HS1.out.2 HP.out)
  clear HR1 HRR HR0 CN
  go_wp2_with fail
  clear c0 c1 c2
  refine CN1.out.mono ?_
  rintro e w2 ⟨lo, hi, X, d, rfl, hq, hdr, b, hlo⟩
  have HB2 := Lib.hid (HB1.out.trans (b.mono HB1.out.size))
  have HDr := Lib.hid hdr
  have HD2 : Hid (IntRow w2 (.slice da m dc) m (getI L)) := HD1.out.below b (Nat.le_refl _)
  have HIN : Hid (0 < m → InW 0 lo (.slice da m dc)) := fun h0 => InW.nat HD1.out h0 hlo
  have HLO : Hid (w.heap.size ≤ lo) := Nat.le_trans HB1.out.size hlo
  have HSZ : Hid (w.heap.size ≤ w2.heap.size) := HB2.out.size
  have CB := Lib.hid (l12Begin_spec lo hi X d noP noC (.slice da m dc) L w2 hdr (clubB.none d) (by rw [HM.out]; exact HD2.out) (by rw [HM.out]; exact HIN.out))
  have HQ := Lib.hid hq
  clear hdr b hlo CN1
  rw [HQ.out.beg] at CB
  have HRx : Hid (R = match begB (drwD F T gr most) L noP noC with | some (P, C) => (cntF (drwD F T gr most) (T.flatten.length - m) P C m : Nat) | none => 0) := by show _ = _; rw [HRE.out, ← HM.out]; rfl
  have HLN : Hid (∀ P C, begB (drwD F T gr most) L noP noC = some (P, C) → m + (T.flatten.length - m) = d.N) := fun P C h => by
    unfold begB at h
    split at h
    · next h9 => rw [HQ.out.N]; show m + (T.flatten.length - m) = T.flatten.length; have h8 : m ≤ T.flatten.length := by rw [← HM.out]; exact h9
                 omega
    · cases h
  obtain ⟨bb, hbb⟩ : ∃ bb, begB (drwD F T gr most) L noP noC = bb := ⟨_, rfl⟩
  rw [hbb] at CB HRx HLN
  clear hbb HRE hq
  go_wp2_with fail
  refine CB.out.mono ?_
  rintro e w3 ⟨rfl, ht, hst⟩
  have HB3 := Lib.hid (HB2.out.trans (ht.below HLO.out HSZ.out))
  clear ht CB
  cases bb with
  | none =>
    obtain rfl : R = 0 := HRx.out
    go_wp2
    go_ret
    exact ⟨rfl, HB3.out⟩
  | some st =>
    obtain ⟨P, C⟩ := st
    obtain ⟨hd3, hc3⟩ := hst P C rfl
    have CC := Lib.hid (l12Count_spec lo hi X d _ m P C w3 (HLN.out P C rfl) hd3 (by rw [← HM.out]; exact hc3))
    have HS3 : Hid (w.heap.size ≤ w3.heap.size) := HB3.out.size
    have HRy : Hid (R = (cntF (drwD F T gr most) (T.flatten.length - m) P C m : Nat)) := HRx.out
    clear hd3 hc3 hst HRx HLN
    rw [HQ.out.cnt] at CC
    generalize cntF (drwD F T gr most) (T.flatten.length - m) P C m = k at *
    go_wp2_with fail
    refine CC.out.mono ?_
    rintro e w4 ⟨rfl, _, ht⟩
    have HB4 := Lib.hid (HB3.out.trans (ht.below HLO.out HS3.out))
    clear ht CC
    go_wp2
    go_ret
    exact ⟨by rw [HRy.out]; rfl, HB4.out⟩
theorem int_offD {w w' : World} {v : Value} {n lo hi : Nat} {g : Nat → Int} {row : Option Nat} (h : IntRow w v n g) (hv : InW lo hi v) (hg : w.grownBy w' row) (hr : ∀ q, row = some q → q < lo ∨ hi ≤ q) : IntRow w' v n g := by
  cases row with
  | none => exact h.touch (Touch.grown (lo := hi) (hi := hi) hg (fun k hk => by cases hk)) (fun _ => hv) (.inl (Nat.le_refl _))
  | some q =>
    rcases hr q rfl with h1 | h1
    · exact h.touch (Touch.grown (lo := 0) (hi := lo) hg (fun k hk => by cases hk; omega)) (fun _ => hv) (.inr (Nat.le_refl _))
    · exact h.touch (Touch.grown (lo := hi) (hi := q + 1) hg (fun k hk => by cases hk; omega)) (fun _ => hv) (.inl (Nat.le_refl _))
def grpL (T : List Int) (L : List Int) (g : Int) (k : Nat) : List Int := ((List.range k).filter fun i => decide (i < L.length) && (getI L i == g)).map (getI T)
theorem grpL_succ (T L : List Int) (g : Int) (k : Nat) : grpL T L g (k + 1) = if k < L.length ∧ getI L k = g then grpL T L g k ++ [getI T k] else grpL T L g k := by
  unfold grpL
  rw [List.range_succ, List.filter_append, List.map_append]
  by_cases h : k < L.length ∧ getI L k = g
  · rw [if_pos h]
    congr 1
    rw [List.filter_cons_of_pos (by simp [h.1, h.2])]
    rfl
  · rw [if_neg h]
    rw [List.filter_cons_of_neg (by simp only [Bool.and_eq_true, decide_eq_true_eq, beq_iff_eq]; exact h)]
    simp
theorem grpL_len (T L : List Int) (g : Int) : ∀ k, (grpL T L g k).length ≤ k
  | k => by
    unfold grpL
    rw [List.length_map]
    exact Nat.le_trans (List.length_filter_le _ _) (by simp)
set_option maxRecDepth 100000 in
set_option maxHeartbeats 4000000 in
theorem groupOf_spec (vp : Value) (gr most : Int) (T : List (List Int)) (vd : Value) (L : List Int) (g : Int) (w : World) (h : RdA tIntSS w [vp] T) (hw : tIntSS.wt T ≤ 1048576) (hd : IntRow w vd L.length (getI L)) :
    Calls Try.prog 39 #[.agg #[vp, .int .i64 gr, .int .i64 most], vd, .int .i64 g] w (IntsL w (grpL T.flatten L g T.flatten.length)) := by
  obtain ⟨i0, hi, hz0, hz1, hz2⟩ := info_parts Try.infoI
  obtain ⟨pa, pc, rfl, hpn⟩ := pots_form h
  obtain ⟨da, dc, rfl, hdn, _⟩ := hd.form
  have hfl6 := Nat.le_trans (flat_wt (T := T)) hw
  obtain ⟨U, hU⟩ : ∃ U, w.alloc (.cells #[.slice pa (List.length (α := List Int) T) pc, .int .i64 gr, .int .i64 most] 26) = U := ⟨_, rfl⟩
  have bU : Below w.heap.size w U := by rw [← hU]; exact (Below.refl _ _).alloc (Nat.le_refl _) _
  have HS : Hid (PotsAt U w.heap.size pa (List.length (α := List Int) T) pc gr most T) := by rw [← hU]; exact PotsAt.made h
  have HB := Lib.hid bU
  have HD : Hid (IntRow U (.slice da L.length dc) L.length (getI L)) := hd.below bU (Nat.le_refl _)
  have CL : Hid (∀ wa, RdA tIntSS wa [.slice pa (List.length (α := List Int) T) pc] T → Calls Try.prog 59 #[.agg #[.slice pa (List.length (α := List Int) T) pc, .int .i64 gr, .int .i64 most]] wa (IntsL wa T.flatten)) := fun wa h => l12Teams_spec _ gr most T wa h hw
  obtain ⟨m, hm⟩ : ∃ m, L.length = m := ⟨_, rfl⟩
  have HM := Lib.hid hm
  obtain ⟨np, hnp⟩ : ∃ np, List.length (α := List Int) T = np := ⟨_, rfl⟩
  rw [hm] at hdn HD ⊢
  rw [hnp] at hU HS CL ⊢
  have c0 := HS.out.1.2 0 _ rfl
  have c1 := HS.out.1.2 1 _ rfl
  have c2 := HS.out.1.2 2 _ rfl
  clear h hd bU hw hm hnp hpn
  go_enter Try.func39, Try.ntmps39
  obtain ⟨U0, hU0⟩ : ∃ U0, U.alloc (.cells #[] 3) = U0 := ⟨_, rfl⟩
  have ON : Hid (U0.ownsRow U.heap.size 3 1 (.slice (some ⟨U.heap.size, 0, none⟩) 0 0) 0 []) := by rw [← hU0]; exact World.ownsRow_lit (e := 3) (size := 1) U #[] 0 (Nat.le_refl _) (by decide) rfl
  have bU0 : Below U.heap.size U U0 := by rw [← hU0]; exact (Below.refl _ _).alloc (Nat.le_refl _) _
  have HU0 := Lib.hid bU0
  have HS0 := Lib.hid (HS.out.below bU0)
  have hU9 : U.heap.size < U0.heap.size := by rw [← hU0]; simp
  have d0 := HS0.out.1.2 0 _ rfl
  have d1 := HS0.out.1.2 1 _ rfl
  have d2 := HS0.out.1.2 2 _ rfl
  have CL0 := Lib.hid (CL.out U0 HS0.out.2)
  generalize hFL : T.flatten = FL at *
  clear bU0 CL hFL
  go_wp2_with fail
  clear hU hU0 c0 c1 c2 d0 d1 d2
  refine CL0.out.mono ?_
  rintro e w1 h9
  obtain ⟨vt, rfl, htr, hown, b⟩ := IntsL.made h9 (by omega)
  obtain ⟨ta, tc, rfl, _, _⟩ := htr.form
  obtain ⟨xs9, hxs9⟩ := hown
  have HTI : Hid (InW U0.heap.size w1.heap.size (.slice ta FL.length tc)) := InW.of_owns hxs9
  have HB1 : Hid (Below U.heap.size U w1) := HU0.out.trans (b.mono HU0.out.size)
  have ON1 : Hid (w1.ownsRow U.heap.size 3 1 (.slice (some ⟨U.heap.size, 0, none⟩) 0 0) 0 []) := owns_below ON.out b (Nat.le_refl _)
  have HTR := Lib.hid htr
  clear h9 htr hxs9 b ON CL0 HS HS0
  obtain ⟨N, hN⟩ : ∃ N, FL.length = N := ⟨_, rfl⟩
  rw [hN] at hfl6 HTR HTI ⊢
  have HNN := Lib.hid hN
  clear hN
  go_wp2
  go_loopw [7, 14] (fun ov iv wr => ∃ (k : Nat) (out : List Int), k ≤ N ∧ iv = .int .i64 k ∧ Hid (out = grpL FL L g k) ∧ out.length ≤ k ∧ Hid (wr.ownsRow U.heap.size 3 1 ov out.length (out.map (Value.int .i64))) ∧ Hid (∀ q, ov.ownBlock = some q → q < U0.heap.size ∨ w1.heap.size ≤ q) ∧ Hid (Below U.heap.size U wr) ∧ Hid (IntRow wr (.slice ta N tc) N (getI FL)) ∧ Hid (w1.heap.size ≤ wr.heap.size)) (fun _ iv _ => N - (RowKit.intOf iv).toNat)
  case atStart => exact ⟨0, [], Nat.zero_le _, rfl, rfl, Nat.le_refl _, ON1, fun q hq => by simp only [Value.ownBlock, Option.some.injEq] at hq; omega, HB1, HTR, Nat.le_refl _⟩
  case round =>
    clear ON1 HB1 HTR
    obtain ⟨k, out, hk9, rfl, HV, hl6, HO, HQ, HBr, HTR, HSZ⟩ := hrel
    obtain ⟨oa, oc, hof⟩ := owns_form HO.out
    subst hof
    by_cases hlt : k < N
    · obtain ⟨b, off, rfl, hcap, q0⟩ := int_at HTR.out hlt
      have hj1 : (k : Int) < (N : Int) := by omega
      have HDr : Hid (IntRow wr (.slice da m dc) m (getI L)) := HD.out.below HBr.out (Nat.le_refl _)
      have HVN := Lib.hid (grpL_succ FL L g k)
      rw [HM.out] at HVN
      generalize getI FL k = x at *
      by_cases hkm : k < m
      · obtain ⟨b2, off2, rfl, hcap2, q2⟩ := int_at HDr.out hkm
        have hj2 : (k : Int) < (m : Int) := by omega
        generalize getI L k = y at *
        by_cases hy : y = g
        · have g2 : (y == g) = true := by simp [hy]
          have HVx : Hid (out ++ [x] = grpL FL L g (k + 1)) := by show _ = _; rw [HVN.out, if_pos ⟨hkm, hy⟩, ← HV.out]
          have hszr := HBr.out.size
          have HO3 := HO
          clear HVN hy HDr
          go_wp2_with (at_builtin; refine wpList_pushL rfl (.tmp 31) (.tmp 33) 31 rfl U.heap.size 3 Try.underlying31 hi hz0 hz1 hz2 rfl (by decide) [.int .i64 x] rfl (by intro u hu; simp at hu; subst hu; rfl) rfl (by show Value.slice (some ⟨_, 0, none⟩) 1 1 = _; simp) HO3.out (by unfold maxLen; omega) (by omega) hszr ?_; intro gg5 cc5 w5 o5 g5 at5 lt5; have O5 := Lib.hid o5; have HB5 := Lib.hid (HBr.out.grown g5 hszr (fun q hq => (HO3.out.lt q hq).1)); have HT5 := Lib.hid (int_offD HTR.out HTI.out g5 HQ.out); have HS5 : Hid (w1.heap.size ≤ w5.heap.size) := Nat.le_trans HSZ.out g5.size; have HQ5 : Hid (gg5 < U0.heap.size ∨ w1.heap.size ≤ gg5) := (by rcases at5 with h | h; exact HQ.out _ h; exact .inr (Nat.le_trans HSZ.out h)); clear o5 g5 at5 lt5)
          go_roundw
          case rel => exact ⟨k + 1, out ++ [x], by omega, by go_num, HVx, by rw [List.length_append, List.length_singleton]; omega, by rw [List.length_append, List.map_append]; exact O5, fun q hq => by simp only [Value.ownBlock, Option.some.injEq] at hq; subst hq; exact HQ5.out, HB5, HT5, HS5⟩
          case measure => simp [RowKit.intOf]; omega
        · have g2 : (y == g) = false := by simp [hy]
          have HVx : Hid (out = grpL FL L g (k + 1)) := by show _ = _; rw [HVN.out, if_neg (fun h => hy h.2), ← HV.out]
          clear HVN hy HDr
          go_wp2
          go_roundw
          case rel => exact ⟨k + 1, out, by omega, by go_num, HVx, by omega, HO, HQ, HBr, HTR, HSZ⟩
          case measure => simp [RowKit.intOf]; omega
      · have g2 : decide ((k : Int) < (m : Int)) = false := decide_eq_false (by omega)
        have g2' : decide (k < m) = false := decide_eq_false (by omega)
        have HVx : Hid (out = grpL FL L g (k + 1)) := by show _ = _; rw [HVN.out, if_neg (fun h => hkm h.1), ← HV.out]
        clear HVN HDr
        go_wp2
        go_roundw
        case rel => exact ⟨k + 1, out, by omega, by go_num, HVx, by omega, HO, HQ, HBr, HTR, HSZ⟩
        case measure => simp [RowKit.intOf]; omega
    obtain rfl : k = N := by omega
    go_wp2
    go_ret
    rw [HNN.out, ← HV.out]
    exact ⟨_, rfl, owns_mono HO.out HB.out.size, HB.out.trans (HBr.out.mono HB.out.size)⟩
end Go.Proofs.Ytmhkkdnopcdibaa
set_option linter.unusedVariables false
namespace Go.Proofs.Ytmhkkdnopcdibaa
open Go.RowKit

theorem owns_lowF {w : World} {base : Nat} {e : TypeId} {size n : Nat} {v : Value} {xs : List Value} (h : w.ownsRow base e size v n xs) {B : Nat} (j : Nat) (u : Value) (hB : B < base) : (w.setCell ⟨B, j, none⟩ u).ownsRow base e size v n xs :=
  ownsRow_setCell_other h (fun e => by have := (h.lt B e).1; omega) u
structure Fam (w : World) (lo : Nat) (t : TypeId) (v : Value) (n m : Nat) (rt : TypeId) (z : Value) (r : Nat → Nat) : Prop where
  own : w.ownsRow lo t 1 v n ((List.range n).map fun a => Value.slice (some ⟨r a, 0, none⟩) m m)
  row : ∀ a, a < n → lo ≤ r a ∧ r a < w.heap.size ∧ v.ownBlock ≠ some (r a) ∧ w.rowIs (r a) rt m (fun _ => z)
  inj : ∀ a b, a < n → b < n → a ≠ b → r a ≠ r b
def famUses (v : Value) (n : Nat) (r : Nat → Nat) (b : Nat) : Prop := v.ownBlock = some b ∨ ∃ a, a < n ∧ r a = b
theorem Fam.nil (w : World) (lo : Nat) (t : TypeId) (m : Nat) (rt : TypeId) (z : Value) : Fam w lo t (.slice none 0 0) 0 m rt z id :=
  ⟨World.ownsRow_nil _ _ _ _, fun a ha => absurd ha (Nat.not_lt_zero _), fun a b ha => absurd ha (Nat.not_lt_zero _)⟩
section
variable {w : World} {lo : Nat} {t : TypeId} {v : Value} {n m : Nat} {rt : TypeId} {z : Value} {r : Nat → Nat}
theorem Fam.lt (h : Fam w lo t v n m rt z r) {b : Nat} (hb : famUses v n r b) : lo ≤ b ∧ b < w.heap.size := by
  rcases hb with hb | ⟨a, ha, rfl⟩
  · exact h.own.lt _ hb
  · exact ⟨(h.row a ha).1, (h.row a ha).2.1⟩
theorem Fam.keep {w' : World} {row : Option Nat} (h : Fam w lo t v n m rt z r) (hg : w.grownBy w' row) (hr : ∀ b, row = some b → ¬ famUses v n r b) : Fam w' lo t v n m rt z r := by
  refine ⟨h.own.kept hg ?_, fun a ha => ?_, h.inj⟩
  · cases hv : v.ownBlock with
    | none => exact .inl rfl
    | some b => exact .inr fun e => hr b e.symm (.inl hv)
  · obtain ⟨h1, h2, h3, h4⟩ := h.row a ha
    exact ⟨h1, Nat.lt_of_lt_of_le h2 hg.size, h3, h4.of_block (hg.block _ h2 fun e => hr _ e.symm (.inr ⟨a, ha, rfl⟩))⟩
theorem Fam.below {w' : World} (h : Fam w lo t v n m rt z r) (hb : Below w.heap.size w w') : Fam w' lo t v n m rt z r :=
  h.keep (row := none) ⟨hb.os, hb.tape, hb.output, hb.size, fun k hk _ => hb.block k hk⟩ fun b e => by cases e
theorem Fam.low (h : Fam w lo t v n m rt z r) {B : Nat} (j : Nat) (u : Value) (hB : B < lo) : Fam (w.setCell ⟨B, j, none⟩ u) lo t v n m rt z r :=
  ⟨owns_lowF h.own j u hB, fun a ha => by
    obtain ⟨h1, h2, h3, h4⟩ := h.row a ha
    exact ⟨h1, by simpa [World.setCell] using h2, h3, h4.setOther (by show r a ≠ B; omega) u⟩, h.inj⟩
theorem Fam.push {o : Obj} {w3 : World} {v' : Value} (h : Fam w lo t v n m rt z r) (hlo : lo ≤ w.heap.size) (hg : ((w.alloc (.cells (madeCells #[z] m) rt)).alloc o).grownBy w3 v.ownBlock)
    (ho : w3.ownsRow lo t 1 v' (n + 1) (((List.range n).map fun a => Value.slice (some ⟨r a, 0, none⟩) m m) ++ [.slice (some ⟨w.heap.size, 0, none⟩) m m]))
    (hat : ∀ b, v'.ownBlock = some b → v.ownBlock = some b ∨ w.heap.size < b) :
    ∃ r', Fam w3 lo t v' (n + 1) m rt z r' ∧ ∀ b, famUses v' (n + 1) r' b → famUses v n r b ∨ w.heap.size ≤ b := by
  obtain ⟨R, hR1, hR2⟩ : ∃ R : Nat → Nat, R n = w.heap.size ∧ ∀ a, a ≠ n → R a = r a := ⟨fun a => if a = n then w.heap.size else r a, if_pos rfl, fun a h => if_neg h⟩
  have hs2 : ((w.alloc (.cells (madeCells #[z] m) rt)).alloc o).heap.size = w.heap.size + 2 := by simp
  have hs3 := hg.size
  have hvl : ∀ b, v.ownBlock = some b → b < w.heap.size := fun b hb => (h.own.lt b hb).2
  refine ⟨R, ⟨?_, fun a ha => ?_, fun a b ha hb hab => ?_⟩, fun b hb => ?_⟩
  · rw [List.range_succ, List.map_append, List.map_singleton, hR1]
    have e : ((List.range n).map fun a => Value.slice (some ⟨R a, 0, none⟩) m m) = (List.range n).map fun a => Value.slice (some ⟨r a, 0, none⟩) m m :=
      List.map_congr_left fun a ha => by rw [hR2 a (by have := List.mem_range.1 ha; omega)]
    rw [e]
    exact ho
  · by_cases e : a = n
    · rw [e, hR1]
      refine ⟨hlo, by omega, fun e2 => ?_, ?_⟩
      · rcases hat _ e2 with h1 | h1
        · have := hvl _ h1; omega
        · omega
      · refine World.rowIs.of_block ((World.rowIs_made w z m rt).alloc o) (hg.block _ (by omega) fun e2 => ?_)
        have := hvl _ e2.symm
        omega
    · obtain ⟨h1, h2, h3, h4⟩ := h.row a (by omega)
      rw [hR2 a e]
      refine ⟨h1, by omega, fun e2 => ?_, ?_⟩
      · rcases hat _ e2 with h5 | h5
        · exact h3 h5
        · omega
      · exact World.rowIs.of_block ((h4.alloc _).alloc o) (hg.block _ (by omega) fun e2 => h3 e2.symm)
  · by_cases e1 : a = n
    · rw [e1, hR1, hR2 b (by omega)]
      have := (h.row b (by omega)).2.1
      omega
    · rw [hR2 a e1]
      have := (h.row a (by omega)).2.1
      by_cases e2 : b = n
      · rw [e2, hR1]; omega
      · rw [hR2 b e2]; exact h.inj a b (by omega) (by omega) hab
  · rcases hb with hb | ⟨a, ha, rfl⟩
    · rcases hat b hb with h1 | h1
      · exact .inl (.inl h1)
      · exact .inr (by omega)
    · by_cases e : a = n
      · rw [e, hR1]; exact .inr (Nat.le_refl _)
      · rw [hR2 a e]; exact .inl (.inr ⟨a, by omega, rfl⟩)
theorem Fam.mat (h : Fam w lo t v n m rt z r) (h0 : 0 < n) : ∃ gb cap, v = .slice (some ⟨gb, 0, none⟩) n cap ∧ Mat w lo w.heap.size gb cap r (fun _ => m) n m (fun _ _ => z) := by
  have ho := h.own
  rcases ho.2 with hn | ⟨g, cap, cur, rfl, hbg, hgg, h1, h2, h3, h4⟩
  · omega
  have hlt := ho.lt g rfl
  refine ⟨g, cap, rfl, by omega, hlt, Nat.le_refl _, fun a ha => ?_, fun a ha => Nat.le_refl _, fun a ha => ⟨(h.row a ha).1, (h.row a ha).2.1, fun e => (h.row a ha).2.2.1 (by rw [e]; rfl)⟩, h.inj, fun a j ha hj => ⟨(h.row a ha).2.2.2.cell hj, (h.row a ha).2.2.2.frozen j⟩⟩
  rw [ho.cellAt a (by omega), List.getElem?_map, List.getElem?_range ha]
  rfl
end
end Go.Proofs.Ytmhkkdnopcdibaa
set_option linter.unusedVariables false
namespace Go.Proofs.Ytmhkkdnopcdibaa
open Go.RowKit

theorem BoxF.grown {w w' : World} {B : Nat} {cs : List Value} {row : Option Nat} (h : BoxF w B cs) (hg : w.grownBy w' row) (hr : row ≠ some B) : BoxF w' B cs :=
  ⟨Nat.lt_of_lt_of_le h.1 hg.size, fun j v hv => ⟨(hg.cell_far ⟨B, j, none⟩ h.1 (fun e => hr e.symm)).trans (h.2 j v hv).1, (hg.frozen_far ⟨B, j, none⟩ h.1 (fun e => hr e.symm)).trans (h.2 j v hv).2⟩⟩
theorem below_setD {B : Nat} {a w : World} (h : Below B a w) (p : Addr) (u : Value) (hp : B ≤ p.block) : Below B a (w.setCell p u) :=
  ⟨h.os, h.tape, h.output, Nat.le_trans h.size (by simp [World.setCell]), fun k hk => (Below.heap_setCell _ _ _ _ (by omega)).trans (h.block k hk)⟩
theorem potAt_in : ∀ (T : List (List Int)) (i : Nat) (r : List Int), T[i]? = some r → ∀ j, j < r.length → potAt T (((T.take i).flatten).length + j) = i
  | [], i, r, h, _, _ => by cases h
  | s :: T, 0, r, h, j, hj => by
    have e : s = r := by simpa using h
    subst e
    show (if _ < _ then _ else _) = 0
    rw [if_pos (by simpa using hj)]
  | s :: T, i + 1, r, h, j, hj => by
    have h2 : T[i]? = some r := by simpa using h
    show (if _ < _ then _ else _) = i + 1
    have e : ((List.take (i + 1) (s :: T)).flatten).length = s.length + ((T.take i).flatten).length := by simp
    rw [e, if_neg (by omega)]
    rw [show s.length + ((T.take i).flatten).length + j - s.length = ((T.take i).flatten).length + j by omega, potAt_in T i r h2 j hj]
theorem potAt_lt : ∀ (T : List (List Int)) (i : Nat), i < T.flatten.length → potAt T i < T.length
  | [], i, h => by simp at h
  | s :: T, i, h => by
    show (if _ < _ then _ else _) < T.length + 1
    split
    · omega
    · next h1 =>
      have h2 : i < s.length + T.flatten.length := by simpa using h
      have := potAt_lt T (i - s.length) (by omega)
      omega
def PotI (w1 : World) (X : Nat) (vf : Value) (most : Int) (vt : Value) (T : List (List Int)) (c : Nat) (v : Value) (wr : World) : Prop :=
  BoxF wr X [vf, .int .i64 most, vt, v, .slice none 0 0, .slice none 0 0] ∧ wr.ownsRow (X + 1) 3 1 v c ((List.range c).map fun j => Value.int .i64 (potAt T j)) ∧ Below X w1 wr
section
variable {w1 : World} {X : Nat} {vf : Value} {most : Int} {vt : Value} {T : List (List Int)} {c : Nat} {v : Value} {wr : World}
theorem PotI.keep {w2 : World} (h : PotI w1 X vf most vt T c v wr) (b : Below wr.heap.size wr w2) : PotI w1 X vf most vt T c v w2 :=
  ⟨h.1.below b, owns_below h.2.1 b (Nat.le_refl _), h.2.2.trans (b.mono (Nat.le_of_lt h.1.1))⟩
theorem PotI.drew (h : PotI w1 X vf most vt T c v wr) : PotI w1 X vf most vt T c v wr.drew := h.keep (Below.refl _ _).drew
theorem PotI.alloc (o : Obj) (h : PotI w1 X vf most vt T c v wr) : PotI w1 X vf most vt T c v (wr.alloc o) := h.keep ((Below.refl _ _).alloc (Nat.le_refl _) _)
theorem PotI.cell (h : PotI w1 X vf most vt T c v wr) : wr.cell? ⟨X, 3, none⟩ = some v := (h.1.2 3 _ rfl).1
theorem PotI.size (h : PotI w1 X vf most vt T c v wr) : X + 1 ≤ wr.heap.size := h.1.1
theorem PotI.put {k : Nat} {v' : Value} {wc : World} (hk : k = potAt T c) (hg : wr.grownBy wc v.ownBlock) (ho : wc.ownsRow (X + 1) 3 1 v' (c + 1) ((List.range c).map (fun j => Value.int .i64 (potAt T j)) ++ [.int .i64 k])) (h : PotI w1 X vf most vt T c v wr) :
    PotI w1 X vf most vt T (c + 1) v' (wc.setCell ⟨X, 3, none⟩ v') ∧ wc.cell? ⟨X, 3, none⟩ = some v ∧ wc.frozen? ⟨X, 3, none⟩ = false := by
  have hB : BoxF wc X [vf, .int .i64 most, vt, v, .slice none 0 0, .slice none 0 0] := h.1.grown hg fun e => by have := (h.2.1.lt _ e).1; omega
  refine ⟨⟨hB.set 3 v' (by simp), ?_, ?_⟩, hB.2 3 _ rfl⟩
  · rw [List.range_succ, List.map_append, List.map_singleton, ← hk]
    exact owns_low ho 3 v' (by omega)
  · exact below_setD (h.2.2.grown hg (Nat.le_of_lt h.1.1) (fun q hq => by have := (h.2.1.lt _ hq).1; omega)) ⟨X, 3, none⟩ _ (Nat.le_refl _)
end
theorem Try.infoBoolS : (Try.prog.info? 130).map (fun i => (i.zero, i.size, i.bytes)) = some (some (.slice none 0 0), 1, 24) := by kernel_rfl
theorem Try.infoBool : (Try.prog.info? 4).map (fun i => (i.zero, i.size, i.bytes)) = some (some (.bool false), 1, 1) := by kernel_rfl
def GrpI (w3 : World) (X : Nat) (a c d : Value) (most : Int) (np n n' : Nat) (gv cv : Value) (r q : Nat → Nat) (wr : World) : Prop :=
  BoxF wr X [a, .int .i64 most, c, d, gv, cv] ∧ Touch X (X + 1) w3 wr ∧ X < w3.heap.size ∧ Fam wr w3.heap.size 130 gv n np 4 (.bool false) r ∧ Fam wr w3.heap.size 31 cv n' 6 3 (.int .i64 0) q ∧ ∀ b, famUses gv n r b → ¬ famUses cv n' q b
theorem touch_moreD {lo hi : Nat} {u w w' : World} {row : Option Nat} (h : Touch lo hi u w) (g : w.grownBy w' row) (hr : ∀ q, row = some q → u.heap.size ≤ q) : Touch lo hi u w' :=
  ⟨g.os.trans h.os, g.tape.trans h.tape, g.output.trans h.output, Nat.le_trans h.size g.size, fun k hk ho => (g.block k (Nat.lt_of_lt_of_le hk h.size) (fun e => by have := hr k e.symm; omega)).trans (h.block k hk ho)⟩
section
variable {w3 : World} {X : Nat} {a c d : Value} {most : Int} {np n n' : Nat} {gv cv : Value} {r q : Nat → Nat} {wr : World}
theorem GrpI.keep {w2 : World} (h : GrpI w3 X a c d most np n n' gv cv r q wr) (b : Below wr.heap.size wr w2) : GrpI w3 X a c d most np n n' gv cv r q w2 :=
  ⟨h.1.below b, h.2.1.trans (Touch.of_below b), h.2.2.1, h.2.2.2.1.below b, h.2.2.2.2.1.below b, h.2.2.2.2.2⟩
theorem GrpI.drew (h : GrpI w3 X a c d most np n n' gv cv r q wr) : GrpI w3 X a c d most np n n' gv cv r q wr.drew := h.keep (Below.refl _ _).drew
theorem GrpI.alloc (o : Obj) (h : GrpI w3 X a c d most np n n' gv cv r q wr) : GrpI w3 X a c d most np n n' gv cv r q (wr.alloc o) := h.keep ((Below.refl _ _).alloc (Nat.le_refl _) _)
theorem GrpI.cell4 (h : GrpI w3 X a c d most np n n' gv cv r q wr) : wr.cell? ⟨X, 4, none⟩ = some gv := (h.1.2 4 _ rfl).1
theorem GrpI.cell5 (h : GrpI w3 X a c d most np n n' gv cv r q wr) : wr.cell? ⟨X, 5, none⟩ = some cv := (h.1.2 5 _ rfl).1
theorem GrpI.size (h : GrpI w3 X a c d most np n n' gv cv r q wr) : w3.heap.size ≤ wr.heap.size := h.2.1.size
theorem GrpI.pushP {o : Obj} {wc : World} {v' : Value} (hg : ((wr.alloc (.cells (madeCells #[.bool false] np) 4)).alloc o).grownBy wc gv.ownBlock)
    (ho : wc.ownsRow w3.heap.size 130 1 v' (n + 1) (((List.range n).map fun a => Value.slice (some ⟨r a, 0, none⟩) np np) ++ [.slice (some ⟨wr.heap.size, 0, none⟩) np np]))
    (hat : ∀ b, v'.ownBlock = some b → gv.ownBlock = some b ∨ wr.heap.size < b) (h : GrpI w3 X a c d most np n n' gv cv r q wr) :
    (∃ r', GrpI w3 X a c d most np (n + 1) n' v' cv r' q (wc.setCell ⟨X, 4, none⟩ v')) ∧ wc.cell? ⟨X, 4, none⟩ = some gv ∧ wc.frozen? ⟨X, 4, none⟩ = false := by
  have h2 := (h.alloc (.cells (madeCells #[.bool false] np) 4)).alloc o
  have hB : BoxF wc X [a, .int .i64 most, c, d, gv, cv] := h2.1.grown hg fun e => by have := (h.2.2.2.1.own.lt _ e).1; have := h.2.2.1; omega
  obtain ⟨r', f1, f2⟩ := h.2.2.2.1.push h.size hg ho hat
  refine ⟨⟨r', hB.set 4 v' (by simp), ?_, h.2.2.1, f1.low 4 v' h.2.2.1, ?_, fun b h1 h3 => ?_⟩, hB.2 4 _ rfl⟩
  · exact (touch_moreD h2.2.1 hg fun b hb => (h.2.2.2.1.own.lt _ hb).1).setCell ⟨X, 4, none⟩ _ (Nat.le_refl _) (Nat.lt_succ_self _)
  · exact (h2.2.2.2.2.1.keep hg fun b hb => h.2.2.2.2.2 b (.inl hb)).low 4 v' h.2.2.1
  · rcases f2 b h1 with h4 | h4
    · exact h.2.2.2.2.2 b h4 h3
    · have := (h.2.2.2.2.1.lt h3).2; omega
theorem GrpI.pushC {o : Obj} {wc : World} {v' : Value} (hg : ((wr.alloc (.cells (madeCells #[.int .i64 0] 6) 3)).alloc o).grownBy wc cv.ownBlock)
    (ho : wc.ownsRow w3.heap.size 31 1 v' (n' + 1) (((List.range n').map fun a => Value.slice (some ⟨q a, 0, none⟩) 6 6) ++ [.slice (some ⟨wr.heap.size, 0, none⟩) 6 6]))
    (hat : ∀ b, v'.ownBlock = some b → cv.ownBlock = some b ∨ wr.heap.size < b) (h : GrpI w3 X a c d most np n n' gv cv r q wr) :
    (∃ q', GrpI w3 X a c d most np n (n' + 1) gv v' r q' (wc.setCell ⟨X, 5, none⟩ v')) ∧ wc.cell? ⟨X, 5, none⟩ = some cv ∧ wc.frozen? ⟨X, 5, none⟩ = false := by
  have h2 := (h.alloc (.cells (madeCells #[.int .i64 0] 6) 3)).alloc o
  have hB : BoxF wc X [a, .int .i64 most, c, d, gv, cv] := h2.1.grown hg fun e => by have := (h.2.2.2.2.1.own.lt _ e).1; have := h.2.2.1; omega
  obtain ⟨q', f1, f2⟩ := h.2.2.2.2.1.push h.size hg ho hat
  refine ⟨⟨q', hB.set 5 v' (by simp), ?_, h.2.2.1, ?_, f1.low 5 v' h.2.2.1, fun b h1 h3 => ?_⟩, hB.2 5 _ rfl⟩
  · exact (touch_moreD h2.2.1 hg fun b hb => (h.2.2.2.2.1.own.lt _ hb).1).setCell ⟨X, 5, none⟩ _ (Nat.le_refl _) (Nat.lt_succ_self _)
  · exact (h2.2.2.2.1.keep hg fun b hb hu => h.2.2.2.2.2 b hu (.inl hb)).low 5 v' h.2.2.1
  · rcases f2 b h3 with h4 | h4
    · exact h.2.2.2.2.2 b h1 h4
    · have := (h.2.2.2.1.lt h1).2; omega
end
theorem flat_most {G : Nat} : ∀ T : List (List Int), (∀ i, i < T.length → (T.getD i []).length ≤ G) → T.flatten.length ≤ T.length * G
  | [], _ => by simp
  | s :: T, h => by
    have h1 : s.length ≤ G := h 0 (by simp)
    have h2 := flat_most T fun i hi => by have := h (i + 1) (by simp; omega); simpa using this
    have e : (s :: T).flatten.length = s.length + T.flatten.length := by simp
    have e2 : (s :: T).length * G = T.length * G + G := by rw [List.length_cons, Nat.succ_mul]
    rw [e, e2]
    omega
theorem flat_some {T : List (List Int)} (h0 : 0 < T.length) (h : ∀ i, i < T.length → 1 ≤ (T.getD i []).length) : 0 < T.flatten.length := by
  cases T with
  | nil => simp at h0
  | cons s T =>
    have h1 : 1 ≤ s.length := h 0 (by simp)
    have e : (s :: T).flatten.length = s.length + T.flatten.length := by simp
    rw [e]
    omega
set_option maxHeartbeats 1000000 in
theorem NewM.of {w w1 w3 wr : World} {X nf N np G : Nat} {F : Nat → TeamD} {T : List (List Int)} {FL : List Int} {most : Int} {fa ta : Option Addr} {fc tc : Nat} {v pv cv : Value} {r q : Nat → Nat}
    (hB1 : Below w.heap.size w w1) (hX : w1.heap.size = X) (hF : TeamRow w1 (.slice fa nf fc) nf F) (hT : IntRow w1 (.slice ta N tc) N (getI FL))
    (hP : PotI w1 X (.slice fa nf fc) most (.slice ta N tc) T N v w3) (hG : GrpI w3 X (.slice fa nf fc) (.slice ta N tc) v most np G G pv cv r q wr) (hp : potsP nf F T G most) (hFL : T.flatten = FL) (hN : FL.length = N) (hnp : T.length = np) :
    NewM w (drwD F T G most) (.returned (.pointer (some ⟨X, 0, none⟩))) wr := by
  obtain ⟨hf, hg, hm, ht, hr, hd⟩ := hp
  have hnf : 2 ≤ nf ∧ nf ≤ 8 := hf.1
  have hwX : w.heap.size ≤ X := by rw [← hX]; exact hB1.size
  have hN0 : 0 < N := by rw [← hN, ← hFL]; exact flat_some (by omega) fun i hi => by have := (hr i hi).1; omega
  have hN12 : N ≤ 12 := by
    have h1 := flat_most (G := G) T fun i hi => by have := (hr i hi).2; omega
    have h2 : T.length * G ≤ 3 * 4 := Nat.mul_le_mul (by omega) (by omega)
    rw [hFL, hN] at h1
    omega
  obtain ⟨_, _, he, _, hfc⟩ := hF.form'
  simp only [Value.slice.injEq, true_and] at he
  obtain ⟨rfl, rfl⟩ := he
  obtain ⟨fb, fo, rfl, hfcap, hcells⟩ := hfc (by omega)
  obtain ⟨tb, to, rfl, htcap, ht0⟩ := int_at hT hN0
  obtain ⟨pb, pc, rfl, hpb1, hpb2⟩ := hP.2.1.form hN0
  have hpc : N ≤ pc := by
    rcases hP.2.1.2 with ⟨_, h9⟩ | ⟨g, cap, cur, h9, _, _, h8, _⟩
    · omega
    · simp only [Value.slice.injEq, true_and] at h9
      obtain ⟨_, rfl⟩ := h9
      exact h8
  obtain ⟨gb, gcap, rfl, hmp⟩ := hG.2.2.2.1.mat (by omega)
  obtain ⟨cb, ccap, rfl, hmc⟩ := hG.2.2.2.2.1.mat (by omega)
  have hlo : X < w3.heap.size := hG.2.2.1
  have hBX : Below X w1 wr := hP.2.2.trans (hG.2.1.below (Nat.le_refl _) (Nat.le_of_lt hlo))
  have key : ∀ (b o : Nat) (u : Value), w1.cell? ⟨b, o, none⟩ = some u → wr.cell? ⟨b, o, none⟩ = some u := fun b o u h => (hBX.cell (p := ⟨b, o, none⟩) (by rw [← hX]; exact World.block_lt_of_cell? w1 _ h)).trans h
  have hfb : fb < X := by rw [← hX]; exact World.block_lt_of_cell? w1 _ (hcells 0 (by omega)).1
  have htb : tb < X := by rw [← hX]; exact World.block_lt_of_cell? w1 _ ht0
  have hdd : ∀ i, i < N → 0 ≤ getI FL i ∧ getI FL i ≤ (nf : Int) - 1 := fun i hi => by have := (hd i (by rw [hFL, hN]; exact hi)).1; rw [hFL] at this; exact this
  have htm : ∀ i, teamAt T i = (getI FL i).toNat := fun i => by unfold teamAt; rw [hFL]
  have hTN : ∀ i, i < N → ((teamAt T i : Nat) : Int) = getI FL i ∧ teamAt T i < nf := fun i hi => by have := hdd i hi; rw [htm]; omega
  have hA := hG.2.2.2.2.2
  refine ⟨w3.heap.size, wr.heap.size, X, { fb := fb, fo := fo, nf := nf, fc := fc, tb := tb, to := to, tc := tc, pb := pb, po := 0, pc := pc, gb := gb, gcap := gcap, cb := cb, ccap := ccap, N := N, G := G, NP := np, r := r, rc := fun _ => np, q := q, qc := fun _ => 6, team := teamAt T, pot := potAt T, cl := fun i => (F (teamAt T i)).club.toNat, most := most }, rfl, ⟨?_, ?_, rfl, rfl, rfl, rfl⟩, ⟨hG.1.box, ⟨hlo, Nat.lt_trans hfb hlo, Nat.lt_trans htb hlo, hpb2⟩, ⟨hfcap, htcap, ?_, hN12, by show G ≤ 4; omega, hnf.2, by show np ≤ 3; omega⟩, fun i hi => ?_, fun i hi => ?_, fun i hi => ?_, hmp, hmc, ?_⟩, ?_, Nat.le_trans hwX (Nat.le_of_lt hlo)⟩
  · show N = T.flatten.length
    rw [hFL, hN]
  · show G = ((G : Int)).toNat
    simp
  · exact hpc
  · obtain ⟨bo, of, e, _, h9⟩ := int_at hT hi
    simp only [Option.some.injEq, Addr.mk.injEq, and_true] at e
    obtain ⟨rfl, rfl⟩ := e
    have h8 := hTN i hi
    refine ⟨?_, h8.2⟩
    show wr.cell? ⟨tb, to + i, none⟩ = some (.int .i64 ((teamAt T i : Nat) : Int))
    rw [h8.1]
    exact key _ _ _ h9
  · refine ⟨?_, ?_⟩
    · show wr.cell? ⟨pb, 0 + i, none⟩ = some (.int .i64 (potAt T i))
      rw [Nat.zero_add, World.cell?_of_block (w := w3) (a := ⟨pb, i, none⟩) (hG.2.1.block pb hpb2 (.inr hpb1)), hP.2.1.cellAt i (by rw [Nat.mul_one]; exact hi), List.getElem?_map, List.getElem?_range hi]
      rfl
    · show potAt T i < np
      rw [← hnp]
      exact potAt_lt T i (by rw [hFL, hN]; exact hi)
  · have h8 := hTN i hi
    have h7 : 0 ≤ (F (teamAt T i)).club ∧ (F (teamAt T i)).club ≤ 5 := (hf.2 _ h8.2).1.2.1
    refine ⟨?_, ?_⟩
    · show wr.cell? ⟨fb, fo + teamAt T i * 3 + 1, none⟩ = some (.int .i64 (((F (teamAt T i)).club.toNat : Nat) : Int))
      rw [Int.toNat_of_nonneg h7.1]
      exact key _ _ _ (hcells _ h8.2).2.1
    · show (F (teamAt T i)).club.toNat < 6
      omega
  · refine ⟨fun e => ?_, fun g hg => ⟨fun e => ?_, fun e => ?_⟩, fun g h hg hh e => ?_⟩
    · exact hA gb (.inl rfl) (.inl (by show some cb = some gb; rw [show gb = cb from e]))
    · exact hA (r g) (.inr ⟨g, hg, rfl⟩) (.inl (by show some cb = some (r g); rw [show r g = cb from e]))
    · exact hA gb (.inl rfl) (.inr ⟨g, hg, e⟩)
    · exact hA (r g) (.inr ⟨g, hg, rfl⟩) (.inr ⟨h, hh, e.symm⟩)
  · exact hB1.trans (hBX.mono hwX)
set_option maxRecDepth 100000 in
set_option maxHeartbeats 4000000 in
theorem l12New_spec : NewC := by
  intro vf nf F vp gr most T w hf h hw hp
  obtain ⟨G, rfl⟩ : ∃ G : Nat, gr = (G : Int) := ⟨gr.toNat, by have := hp.2.1; omega⟩
  have hG4 : 1 ≤ G ∧ G ≤ 4 := by have := hp.2.1; omega
  obtain ⟨pa, pc, rfl, hpn⟩ := pots_form h
  obtain ⟨fa, fc, rfl, hfn, _⟩ := hf.form
  have hfl6 := Nat.le_trans (flat_wt (T := T)) hw
  obtain ⟨U, hU⟩ : ∃ U, w.alloc (.cells #[.slice pa (List.length (α := List Int) T) pc, .int .i64 G, .int .i64 most] 26) = U := ⟨_, rfl⟩
  have bU : Below w.heap.size w U := by rw [← hU]; exact (Below.refl _ _).alloc (Nat.le_refl _) _
  have HS : Hid (PotsAt U w.heap.size pa (List.length (α := List Int) T) pc G most T) := by rw [← hU]; exact PotsAt.made h
  have HB := Lib.hid bU
  have HP := Lib.hid hp
  have HF : Hid (TeamRow U (.slice fa nf fc) nf F) := hf.below bU (Nat.le_refl _)
  have CL : Hid (∀ wa, Below U.heap.size U wa → Calls Try.prog 59 #[.agg #[.slice pa (List.length (α := List Int) T) pc, .int .i64 G, .int .i64 most]] wa (IntsL wa T.flatten)) := fun wa hb => l12Teams_spec _ G most T wa (HS.out.2.below hb) hw
  obtain ⟨i0, hi, hz0, hz1, hz2⟩ := info_parts Try.infoI
  obtain ⟨np, hnp⟩ : ∃ np, List.length (α := List Int) T = np := ⟨_, rfl⟩
  have HNP := Lib.hid hnp
  rw [hnp] at hpn hU HS CL ⊢
  have c0 := HS.out.1.2 0 _ rfl
  have c1 := HS.out.1.2 1 _ rfl
  have c2 := HS.out.1.2 2 _ rfl
  obtain ⟨FL, hFL⟩ : ∃ FL, T.flatten = FL := ⟨_, rfl⟩
  have HFL := Lib.hid hFL
  rw [hFL] at hfl6 CL
  obtain ⟨N, hN⟩ : ∃ N, FL.length = N := ⟨_, rfl⟩
  have HNN := Lib.hid hN
  rw [hN] at hfl6
  clear h hf bU hw hp hnp hFL
  go_enter Try.func65, Try.ntmps65
  go_wp2_with fail
  clear hU
  have HC : Hid (∀ w', Below U.heap.size U w' → w'.cell? ⟨w.heap.size, 0, none⟩ = some (.slice pa np pc) ∧ w'.cell? ⟨w.heap.size, 1, none⟩ = some (.int .i64 G) ∧ w'.cell? ⟨w.heap.size, 2, none⟩ = some (.int .i64 most)) := fun w' hb => ⟨(HS.out.1.below hb).2 0 _ rfl, (HS.out.1.below hb).2 1 _ rfl, (HS.out.1.below hb).2 2 _ rfl⟩
  go_region_held3 (fun w' => w'.cell? ⟨w.heap.size, 0, none⟩ = some (.slice pa np pc) ∧ w'.cell? ⟨w.heap.size, 1, none⟩ = some (.int .i64 G) ∧ w'.cell? ⟨w.heap.size, 2, none⟩ = some (.int .i64 most)) (first | exact HC.out _ (Below.refl _ _).drew | exact HC.out _ hSw | exact HC.out _ (hSw.alloc hSw.size _))
    (first | (go_at_call 59; refine (CL.out _ (Below.refl _ _).drew).mono ?_; rintro e w1 h9; obtain ⟨vt, rfl, htr, hown, b⟩ := IntsL.made h9 (by rw [hN]; omega); obtain ⟨ta, tc, rfl, _, _⟩ := htr.form; rw [hN] at htr hown ⊢; have hSw : Below U.heap.size U w1 := (Below.refl _ _).drew.trans b) | fail)
  have HS1 := Lib.hid (HS.out.below hSw)
  have HTR := Lib.hid htr
  have HF1 := Lib.hid (HF.out.below hSw (Nat.le_refl _))
  have HB1 := Lib.hid (HB.out.trans (hSw.mono HB.out.size))
  have hX0 : w.heap.size < w1.heap.size := HS1.out.1.1
  obtain ⟨xs9, hxs9⟩ := hown
  have HTI : Hid (InW U.heap.size w1.heap.size (.slice ta N tc)) := InW.of_owns hxs9
  clear htr hSw b h9 hxs9 HS HF HB HC CL hN c0 c1 c2
  obtain ⟨V, hV⟩ : ∃ V, w1.alloc (.cells #[.slice fa nf fc, .int .i64 most, .slice ta N tc, .slice none 0 0, .slice none 0 0, .slice none 0 0] 95) = V := ⟨_, rfl⟩
  obtain ⟨X, hX⟩ : ∃ X, w1.heap.size = X := ⟨_, rfl⟩
  have P0 : Hid (PotI w1 X (.slice fa nf fc) most (.slice ta N tc) T 0 (.slice none 0 0) V) := by
    rw [← hV, ← hX]
    exact ⟨BoxF.made (Below.refl _ _) rfl, World.ownsRow_nil _ _ _ _, (Below.refl _ _).alloc (Nat.le_refl _) _⟩
  have HKP : Hid (∀ wa c v, PotI w1 X (.slice fa nf fc) most (.slice ta N tc) T c v wa → PotsAt wa w.heap.size pa np pc G most T) := fun wa c v h => HS1.out.below (by rw [hX]; exact h.2.2)
  have c0 := (HKP.out _ _ _ P0.out).1.2 0 _ rfl
  have c1 := (HKP.out _ _ _ P0.out).1.2 1 _ rfl
  have c2 := (HKP.out _ _ _ P0.out).1.2 2 _ rfl
  have HX := Lib.hid hX
  rw [hV, hX]
  clear hV hX
  go_wp2
  clear c0 c1 c2
  go_loopw [19] (fun iv wr => ∃ (i : Nat) (v : Value), i ≤ np ∧ iv = .int .i64 i ∧ Hid (PotI w1 X (.slice fa nf fc) most (.slice ta N tc) T ((T.take i).flatten).length v wr)) (fun iv _ => np - (RowKit.intOf iv).toNat)
  case atStart => exact ⟨0, _, Nat.zero_le _, rfl, P0⟩
  case round =>
    clear P0
    obtain ⟨i, v, hi9, rfl, HPI⟩ := hrel
    by_cases hlt : i < np
    · obtain ⟨r, hr⟩ : ∃ r : List Int, T[i]? = some r := ⟨_, List.getElem?_eq_getElem (by rw [HNP.out]; exact hlt)⟩
      obtain ⟨b, off, x, xc, rfl, hcap, q0, hrr, hm63⟩ := pot_cells (by rw [HNP.out]; exact (HKP.out _ _ _ HPI.out).2) hr
      rw [HNP.out] at hcap
      have hj1 : (i : Int) < (np : Int) := by omega
      have HLN : Hid (((T.take (i + 1)).flatten).length = ((T.take i).flatten).length + r.length) := by show _ = _; rw [List.take_add_one, hr, List.flatten_append]; simp
      have HPT : Hid (∀ j, j < r.length → potAt T (((T.take i).flatten).length + j) = i) := potAt_in T i r hr
      have hcb : ((T.take i).flatten).length + r.length ≤ 1048576 := by rw [← HLN.out]; refine Nat.le_trans (flat_takeD _) ?_; rw [HFL.out, HNN.out]; exact hfl6
      obtain ⟨m, hm⟩ : ∃ m, r.length = m := ⟨_, rfl⟩
      rw [hm] at q0 hm63 HLN HPT hcb
      generalize ((T.take i).flatten).length = cI at *
      clear hm hrr hr
      go_wp2
      clear q0
      generalize wr = w2 at *
      go_loopw [26] (fun jv wr => ∃ (j : Nat) (v : Value), j ≤ m ∧ jv = .int .i64 j ∧ Hid (PotI w1 X (.slice fa nf fc) most (.slice ta N tc) T (cI + j) v wr)) (fun jv _ => m - (RowKit.intOf jv).toNat)
      case atStart => exact ⟨0, v, Nat.zero_le _, rfl, HPI⟩
      case round =>
        clear HPI
        obtain ⟨j, v, hj9, rfl, HPJ⟩ := hrel
        by_cases hlt2 : j < m
        · have hj2 : (j : Int) < (m : Int) := by omega
          obtain ⟨va, vc, hvf⟩ := owns_form HPJ.out.2.1
          subst hvf
          have c3 := HPJ.out.cell
          have HPJ2 : Hid (i = potAt T (cI + j)) := (HPT.out j hlt2).symm
          have hsz := HPJ.out.size
          go_wp2_with (at_builtin; refine wpList_pushL rfl (.tmp 32) (.tmp 34) 31 rfl (X + 1) 3 Try.underlying31 hi hz0 hz1 hz2 rfl (by decide) [.int .i64 i] rfl (by intro u hu; simp at hu; subst hu; rfl) rfl (by show Value.slice (some ⟨_, 0, none⟩) 1 1 = _; simp) HPJ.out.2.1 (by unfold maxLen; omega) (by omega) hsz ?_; intro gg c9 wc oc gc hat hlt9; have s9 := PotI.put HPJ2.out gc oc HPJ.out; have f9 := s9.2.1; have e9 := s9.2.2; have S9 := Lib.hid s9.1; clear s9 oc gc hat hlt9)
          go_roundw
          case rel => exact ⟨j + 1, _, by omega, by go_num, S9⟩
          case measure => simp [RowKit.intOf]; omega
        obtain rfl : j = m := by omega
        go_wp2
        go_roundw
        case rel => exact ⟨i + 1, v, by omega, by go_num, by rw [HLN.out]; exact HPJ⟩
        case measure => simp [RowKit.intOf]; omega
    obtain rfl : np = i := by omega
    have HPN : Hid (PotI w1 X (.slice fa nf fc) most (.slice ta N tc) T N v wr) := by
      have h9 := HPI.out
      rw [List.take_of_length_le (by have := HNP.out; omega), HFL.out, HNN.out] at h9
      exact h9
    clear HPI
    have hX1 : X < wr.heap.size := HPN.out.1.1
    have G0 : Hid (GrpI wr X (.slice fa nf fc) (.slice ta N tc) v most np 0 0 (.slice none 0 0) (.slice none 0 0) id id wr) :=
      ⟨HPN.out.1, Touch.refl _ _ _, hX1, Fam.nil _ _ _ _ _ _, Fam.nil _ _ _ _ _ _, fun b h => by rcases h with h | ⟨_, h, _⟩ <;> (simp [Value.ownBlock] at h)⟩
    have HPX := Lib.hid (HKP.out _ _ _ HPN.out).1
    have HX0 : Hid (w.heap.size < X) := by show _ < _; rw [← HX.out]; exact hX0
    have mk1 : ∀ w, (Instr.makeSlice 130 (.int .i64 (np : Int)) (.int .i64 (np : Int))).run Try.prog w = .ok (.slice (some ⟨w.heap.size, 0, none⟩) np np) (w.alloc (.cells (madeCells #[.bool false] np) 4)) := fun w => run_make_row' _ _ _ 1 Try.underlying130 Try.infoBool rfl .i64 .i64 np (by have := HP.out.2.2.2.1; rw [HNP.out] at this; omega) hpn w
    have mk2 : ∀ w, (Instr.makeSlice 31 (.int .i64 6) (.int .i64 6)).run Try.prog w = .ok (.slice (some ⟨w.heap.size, 0, none⟩) 6 6) (w.alloc (.cells (madeCells #[.int .i64 0] 6) 3)) := fun w => run_make_row' _ _ _ 8 Try.underlying31 Try.infoI rfl .i64 .i64 6 (by omega) (by omega) w
    obtain ⟨b0, bi, bz0, bz1, bz2⟩ := info_parts Try.infoBoolS
    obtain ⟨s0i, si, iz0, iz1, iz2⟩ := info_parts Try.infoIntSS
    go_wp2
    generalize hwr : wr = w3 at *
    clear hwr
    go_loopw [8] (fun gv wr => ∃ (g : Nat) (pv cv : Value) (r q : Nat → Nat), g ≤ G ∧ gv = .int .i64 g ∧ Hid (GrpI w3 X (.slice fa nf fc) (.slice ta N tc) v most np g g pv cv r q wr)) (fun gv _ => G - (RowKit.intOf gv).toNat)
    case atStart => exact ⟨0, _, _, _, _, Nat.zero_le _, rfl, G0⟩
    case round =>
      clear G0
      obtain ⟨g, pv, cv, r, q, hg9, rfl, HG⟩ := hrel
      have HPr := Lib.hid (HPX.out.touch HG.out.2.1 (.inl HX0.out))
      have c0 := HPr.out.2 0 _ rfl
      have c1 := HPr.out.2 1 _ rfl
      have c2 := HPr.out.2 2 _ rfl
      by_cases hlt : g < G
      · have hj1 : (g : Int) < (G : Int) := by omega
        obtain ⟨oa, oc9, hof⟩ := owns_form HG.out.2.2.2.1.own
        obtain ⟨ea, ec9, hef⟩ := owns_form HG.out.2.2.2.2.1.own
        subst hof hef
        have s0 := HG.out
        have d0 : wr.drew.cell? ⟨w.heap.size, 0, none⟩ = some (.slice pa np pc) := c0
        have k0 : wr.drew.cell? ⟨X, 4, none⟩ = some (.slice oa g oc9) := s0.cell4
        have k1 : ∀ o, (wr.alloc o).drew.cell? ⟨X, 4, none⟩ = some (.slice oa g oc9) := fun o => (s0.alloc o).cell4
        have k2 : ∀ o o2, ((wr.alloc o).alloc o2).drew.cell? ⟨X, 4, none⟩ = some (.slice oa g oc9) := fun o o2 => ((s0.alloc o).alloc o2).cell4
        have ow1 := Lib.hid (((s0.alloc (.cells (madeCells #[.bool false] np) 4)).alloc (.cells #[.slice (some ⟨wr.heap.size, 0, none⟩) np np] 130)).drew)
        have nw1 : Hid (∀ j u, [Value.slice (some ⟨wr.heap.size, 0, none⟩) np np][j]? = some u → (((wr.alloc (.cells (madeCells #[.bool false] np) 4)).alloc (.cells #[.slice (some ⟨wr.heap.size, 0, none⟩) np np] 130)).drew).cell? ((⟨wr.heap.size + 1, 0, none⟩ : Addr).add j) = some u) := by
          have h8 : (wr.alloc (.cells (madeCells #[.bool false] np) 4)).heap.size = wr.heap.size + 1 := by simp
          have h9 := heap_alloc_new (wr.alloc (.cells (madeCells #[.bool false] np) 4)) (.cells #[.slice (some ⟨wr.heap.size, 0, none⟩) np np] 130)
          rw [h8] at h9
          exact World.news_of_block (w := ((wr.alloc (.cells (madeCells #[.bool false] np) 4)).alloc (.cells #[.slice (some ⟨wr.heap.size, 0, none⟩) np np] 130)).drew) (cs := #[.slice (some ⟨wr.heap.size, 0, none⟩) np np]) (t := 130) (fr := (0, 0)) h9
        have sz1 : ((wr.alloc (.cells (madeCells #[.bool false] np) 4)).alloc (.cells #[.slice (some ⟨wr.heap.size, 0, none⟩) np np] 130)).drew.heap.size = wr.heap.size + 2 := by show ((wr.alloc _).alloc _).heap.size = _; simp
        have SZ1 := Lib.hid sz1
        clear HG sz1
        go_wp2
        go_region_law
          (first
            | (refine step_append_lies _ (by rfl) (.tmp 50) (.tmp 55) 93 (by rfl) w3.heap.size 130 b0 (.slice none 0 0) 1 24 Try.underlying93 bi bz0 bz1 bz2 rfl (by decide) (.slice oa g oc9) g ((List.range g).map fun a => Value.slice (some ⟨r a, 0, none⟩) np np) (by rfl) ow1.out.2.2.2.1.own ⟨wr.heap.size + 1, 0, none⟩ 1 1 [.slice (some ⟨wr.heap.size, 0, none⟩) np np] (by rfl) (by rfl) nw1.out (by intro u hu; simp at hu; subst hu; rfl) (by omega) (by unfold maxLen; omega) (by omega) ow1.out.size (wr.heap.size + 2) SZ1.out ?_; intro gg c9 wc oc gc hat hlt9; have s9 := GrpI.pushP (wr := wr) (o := .cells #[.slice (some ⟨wr.heap.size, 0, none⟩) np np] 130) (gv := .slice oa g oc9) (r := r) (n := g) (np := np) ⟨gc.os, gc.tape, gc.output, gc.size, gc.block⟩ oc (fun b hb => by simp only [Value.ownBlock, Option.some.injEq] at hb; subst hb; rcases hat with h | h; exact .inl h; exact .inr (by omega)) s0; have f9 := s9.2.1; have e9 := s9.2.2)
            | fail)
        all_goals (
          obtain ⟨r', s5⟩ := s9.1
          clear s9 f9 e9 gc oc hat s0 d0 k0 k1 k2 ow1 nw1 SZ1 c0 c1 c2 HPr hlt9
          generalize wc.setCell ⟨X, 4, none⟩ (.slice (some ⟨gg, 0, none⟩) (g + 1) c9) = w5 at *
          generalize Value.slice (some ⟨gg, 0, none⟩) (g + 1) c9 = pv at *
          have k0 : w5.drew.cell? ⟨X, 5, none⟩ = some (.slice ea g ec9) := s5.cell5
          have k1 : ∀ o, (w5.alloc o).drew.cell? ⟨X, 5, none⟩ = some (.slice ea g ec9) := fun o => (s5.alloc o).cell5
          have k2 : ∀ o o2, ((w5.alloc o).alloc o2).drew.cell? ⟨X, 5, none⟩ = some (.slice ea g ec9) := fun o o2 => ((s5.alloc o).alloc o2).cell5
          have ow2 := Lib.hid (((s5.alloc (.cells (madeCells #[.int .i64 0] 6) 3)).alloc (.cells #[.slice (some ⟨w5.heap.size, 0, none⟩) 6 6] 31)).drew)
          have nw2 : Hid (∀ j u, [Value.slice (some ⟨w5.heap.size, 0, none⟩) 6 6][j]? = some u → (((w5.alloc (.cells (madeCells #[.int .i64 0] 6) 3)).alloc (.cells #[.slice (some ⟨w5.heap.size, 0, none⟩) 6 6] 31)).drew).cell? ((⟨w5.heap.size + 1, 0, none⟩ : Addr).add j) = some u) := by
            have h8 : (w5.alloc (.cells (madeCells #[.int .i64 0] 6) 3)).heap.size = w5.heap.size + 1 := by simp
            have h9 := heap_alloc_new (w5.alloc (.cells (madeCells #[.int .i64 0] 6) 3)) (.cells #[.slice (some ⟨w5.heap.size, 0, none⟩) 6 6] 31)
            rw [h8] at h9
            exact World.news_of_block (w := ((w5.alloc (.cells (madeCells #[.int .i64 0] 6) 3)).alloc (.cells #[.slice (some ⟨w5.heap.size, 0, none⟩) 6 6] 31)).drew) (cs := #[.slice (some ⟨w5.heap.size, 0, none⟩) 6 6]) (t := 31) (fr := (0, 0)) h9
          have sz2 : ((w5.alloc (.cells (madeCells #[.int .i64 0] 6) 3)).alloc (.cells #[.slice (some ⟨w5.heap.size, 0, none⟩) 6 6] 31)).drew.heap.size = w5.heap.size + 2 := by show ((w5.alloc _).alloc _).heap.size = _; simp
          have SZ2 := Lib.hid sz2
          clear sz2
          go_wp2
          go_region_law
          (first
            | (refine step_append_lies _ (by rfl) (.tmp 63) (.tmp 65) 24 (by rfl) w3.heap.size 31 s0i (.slice none 0 0) 1 24 Try.underlying24 si iz0 iz1 iz2 rfl (by decide) (.slice ea g ec9) g ((List.range g).map fun a => Value.slice (some ⟨q a, 0, none⟩) 6 6) (by rfl) ow2.out.2.2.2.2.1.own ⟨w5.heap.size + 1, 0, none⟩ 1 1 [.slice (some ⟨w5.heap.size, 0, none⟩) 6 6] (by rfl) (by rfl) nw2.out (by intro u hu; simp at hu; subst hu; rfl) (by omega) (by unfold maxLen; omega) (by omega) ow2.out.size (w5.heap.size + 2) SZ2.out ?_; intro gg c9 wd oc gc hat hlt9; have s9 := GrpI.pushC (wr := w5) (o := .cells #[.slice (some ⟨w5.heap.size, 0, none⟩) 6 6] 31) (cv := .slice ea g ec9) (q := q) (n' := g) (np := np) ⟨gc.os, gc.tape, gc.output, gc.size, gc.block⟩ oc (fun b hb => by simp only [Value.ownBlock, Option.some.injEq] at hb; subst hb; rcases hat with h | h; exact .inl h; exact .inr (by omega)) s5; have f9 := s9.2.1; have e9 := s9.2.2)
            | fail))
        all_goals (
          obtain ⟨q', s6⟩ := s9.1
          clear s9 f9 e9 gc oc hat s5 k0 k1 k2 ow2 nw2 SZ2 hlt9
          go_wp2
          exact ⟨⟨g + 1, _, _, r', q', by omega, by go_num, s6⟩, by simp [RowKit.intOf]; omega⟩)
      obtain rfl : g = G := by omega
      go_wp2
      go_ret
      exact NewM.of HB1.out HX.out HF1.out HTR.out HPN.out HG.out HP.out HFL.out HNN.out HNP.out
end Go.Proofs.Ytmhkkdnopcdibaa
