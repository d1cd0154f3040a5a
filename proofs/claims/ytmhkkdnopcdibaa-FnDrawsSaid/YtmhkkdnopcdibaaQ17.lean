/-
  Packed: Draw4, Fam.
-/
import Derived.Deep.OwnRows
import Derived.Test.YtmhkkdnopcdibaaQ2
import Derived.Test.YtmhkkdnopcdibaaQ16
set_option linter.unusedVariables false
namespace Go.Proofs.Ytmhkkdnopcdibaa
open Go.RowKit

def potAt : List (List Int) → Nat → Nat
  | [], _ => 0
  | r :: T, i => if i < r.length then 0 else potAt T (i - r.length) + 1
def teamAt (T : List (List Int)) (i : Nat) : Nat := (getI T.flatten i).toNat
def drwD (F : Nat → TeamD) (T : List (List Int)) (gr most : Int) : DrwD :=
  { fb := 0, fo := 0, nf := 0, fc := 0, tb := 0, to := 0, tc := 0, pb := 0, po := 0, pc := 0, gb := 0, gcap := 0, cb := 0, ccap := 0, N := T.flatten.length, G := gr.toNat, NP := T.length, r := id, rc := id, q := id, qc := id, team := teamAt T, pot := potAt T, cl := fun i => (F (teamAt T i)).club.toNat, most := most }
structure DrwEq (d d' : DrwD) : Prop where
  N : d.N = d'.N
  G : d.G = d'.G
  pot : d.pot = d'.pot
  cl : d.cl = d'.cl
  most : d.most = d'.most
  team : d.team = d'.team
theorem DrwEq.fit {d d' : DrwD} (h : DrwEq d d') : fitB d = fitB d' := by
  funext P C i g
  unfold fitB
  rw [h.pot, h.cl, h.most]
theorem DrwEq.putP {d d' : DrwD} (h : DrwEq d d') : putP d = Go.Proofs.Ytmhkkdnopcdibaa.putP d' := by
  funext P i g on a b
  unfold Go.Proofs.Ytmhkkdnopcdibaa.putP
  rw [h.pot]
theorem DrwEq.putC {d d' : DrwD} (h : DrwEq d d') : putC d = Go.Proofs.Ytmhkkdnopcdibaa.putC d' := by
  funext C i g on a b
  unfold Go.Proofs.Ytmhkkdnopcdibaa.putC
  rw [h.cl]
theorem DrwEq.cnt {d d' : DrwD} (h : DrwEq d d') : cntF d = cntF d' := by
  funext f
  induction f with
  | zero =>
    funext P C i
    show (if i = d.N then 1 else 0) = if i = d'.N then 1 else 0
    rw [h.N]
  | succ f IH =>
    funext P C i
    show (if i = d.N then 1 else sumNN (fun g => if fitB d P C i g = true then cntF d f (Go.Proofs.Ytmhkkdnopcdibaa.putP d P i g true) (Go.Proofs.Ytmhkkdnopcdibaa.putC d C i g true) (i + 1) else 0) d.G) = (if i = d'.N then 1 else sumNN (fun g => if fitB d' P C i g = true then cntF d' f (Go.Proofs.Ytmhkkdnopcdibaa.putP d' P i g true) (Go.Proofs.Ytmhkkdnopcdibaa.putC d' C i g true) (i + 1) else 0) d'.G)
    rw [h.N, h.G, h.fit, h.putP, h.putC, IH]
theorem DrwEq.begF {d d' : DrwD} (h : DrwEq d d') : ∀ (L : List Int) (i : Nat) (P : Nat → Nat → Bool) (C : Nat → Nat → Int), begF d L i P C = Go.Proofs.Ytmhkkdnopcdibaa.begF d' L i P C
  | [], _, _, _ => rfl
  | x :: L, i, P, C => by
    rw [begF_cons, begF_cons, h.G, h.fit, h.putP, h.putC, DrwEq.begF h L]
theorem DrwEq.beg {d d' : DrwD} (h : DrwEq d d') : begB d = begB d' := by
  funext L P C
  unfold begB
  rw [h.N, h.begF]
def noP : Nat → Nat → Bool := fun _ _ => false
def noC : Nat → Nat → Int := fun _ _ => 0
theorem clubB.none (d : DrwD) : clubB d noC 0 := fun g k _ _ => ⟨Int.le_refl _, Int.le_refl _⟩
def NewM (w : World) (D : DrwD) (e : Ending) (w' : World) : Prop :=
  ∃ (lo hi X : Nat) (d : DrwD), e = .returned (.pointer (some ⟨X, 0, none⟩)) ∧ DrwEq d D ∧ DrwAt w' lo hi X d noP noC ∧ Below w.heap.size w w' ∧ w.heap.size ≤ lo
def NewC : Prop := ∀ (vf : Value) (nf : Nat) (F : Nat → TeamD) (vp : Value) (gr most : Int) (T : List (List Int)) (w : World), TeamRow w vf nf F → RdA tIntSS w [vp] T → tIntSS.wt T ≤ 1048576 → potsP nf F T gr most →
  Calls Try.prog 65 #[vf, .agg #[vp, .int .i64 gr, .int .i64 most]] w (NewM w (drwD F T gr most))
def isB (F : Nat → TeamD) (T : List (List Int)) (gr most : Int) (L : List Int) : Bool := decide (L.length = T.flatten.length) && (begB (drwD F T gr most) L noP noC).isSome
set_option maxRecDepth 100000 in
set_option maxHeartbeats 4000000 in
theorem isDraw_spec (hN : NewC) (vf : Value) (nf : Nat) (F : Nat → TeamD) (vp : Value) (gr most : Int) (T : List (List Int)) (vd : Value) (L : List Int) (R : Bool) (w : World) (hR : R = true ↔ potsP nf F T gr most ∧ isB F T gr most L = true) (hf : TeamRow w vf nf F) (hs : ∀ i, (F i).nm.size ≤ maxLen) (h : RdA tIntSS w [vp] T) (hw : tIntSS.wt T ≤ 1048576) (hd : IntRow w vd L.length (getI L)) :
    Calls Try.prog 29 #[vf, .agg #[vp, .int .i64 gr, .int .i64 most], vd] w fun e w' => e = .returned (.bool R) ∧ Below w.heap.size w w' := by
  obtain ⟨pa, pc, rfl, hpn⟩ := pots_form h
  obtain ⟨da, dc, rfl, hdn, _⟩ := hd.form
  obtain ⟨r1, hr1⟩ := boolEx (potsP nf F T gr most)
  obtain ⟨U, hU⟩ : ∃ U, w.alloc (.cells #[.slice pa (List.length (α := List Int) T) pc, .int .i64 gr, .int .i64 most] 26) = U := ⟨_, rfl⟩
  have bU : Below w.heap.size w U := by rw [← hU]; exact (Below.refl _ _).alloc (Nat.le_refl _) _
  have HS : Hid (PotsAt U w.heap.size pa (List.length (α := List Int) T) pc gr most T) := by rw [← hU]; exact PotsAt.made h
  have HB := Lib.hid bU
  have HD : Hid (IntRow U (.slice da L.length dc) L.length (getI L)) := hd.below bU (Nat.le_refl _)
  have HF : Hid (TeamRow U vf nf F) := hf.below bU (Nat.le_refl _)
  have CF := Lib.hid (potsOk_spec vf nf F (.slice pa (List.length (α := List Int) T) pc) gr most T r1 U hr1 HF.out hs HS.out.2 hw)
  have CN : Hid (∀ wa, TeamRow wa vf nf F → RdA tIntSS wa [.slice pa (List.length (α := List Int) T) pc] T → potsP nf F T gr most → Calls Try.prog 65 #[vf, .agg #[.slice pa (List.length (α := List Int) T) pc, .int .i64 gr, .int .i64 most]] wa (NewM wa (drwD F T gr most))) := fun wa h1 h2 h3 => hN _ _ _ _ _ _ _ wa h1 h2 hw h3
  have HR1 := Lib.hid hr1
  have HRR := Lib.hid hR
  obtain ⟨m, hm⟩ : ∃ m, L.length = m := ⟨_, rfl⟩
  have HM := Lib.hid hm
  obtain ⟨np, hnp⟩ : ∃ np, List.length (α := List Int) T = np := ⟨_, rfl⟩
  rw [hm] at hdn HD ⊢
  rw [hnp] at hU HS CF CN ⊢
  have c0 := HS.out.1.2 0 _ rfl
  have c1 := HS.out.1.2 1 _ rfl
  have c2 := HS.out.1.2 2 _ rfl
  clear h hf hR hr1 hd bU hw hs hN hm hnp hpn
  go_enter Try.func29, Try.ntmps29
  go_wp2_with fail
  clear hU c0 c1 c2
  refine CF.out.mono ?_
  rintro e w1 ⟨rfl, b⟩
  have HS1 := Lib.hid (HS.out.below b)
  have HF1 := Lib.hid (HF.out.below b (Nat.le_refl _))
  have HD1 := Lib.hid (HD.out.below b (Nat.le_refl _))
  have HB1 := Lib.hid (HB.out.trans (b.mono HB.out.size))
  clear b HS HB CF HF HD
  have c0 := HS1.out.1.2 0 _ rfl
  have c1 := HS1.out.1.2 1 _ rfl
  have c2 := HS1.out.1.2 2 _ rfl
  cases r1 with
  | false =>
    obtain rfl : R = false := boolF HRR.out fun h => by have := HR1.out.2 h.1; cases this
    go_wp2
    go_ret
    exact ⟨rfl, HB1.out⟩
  | true =>
  have HP := Lib.hid (HR1.out.1 rfl)
  have HRE : Hid (R = isB F T gr most L) := by
    show _ = _
    cases hx : isB F T gr most L with
    | true => exact HRR.out.2 ⟨HP.out, hx⟩
    | false => exact boolF HRR.out fun h => by rw [hx] at h; cases h.2
  have CN1 := Lib.hid (CN.out w1 HF1.out HS1.out.2 HP.out)
  clear HR1 HRR CN
  go_wp2_with fail
  clear c0 c1 c2
  refine CN1.out.mono ?_
  rintro e w2 ⟨lo, hi, X, d, rfl, hq, hdr, b, hlo⟩
  have HB2 := Lib.hid (HB1.out.trans (b.mono HB1.out.size))
  have HDr := Lib.hid hdr
  have HD2 : Hid (IntRow w2 (.slice da m dc) m (getI L)) := HD1.out.below b (Nat.le_refl _)
  have HIN : Hid (0 < m → InW 0 lo (.slice da m dc)) := fun h0 => InW.nat HD1.out h0 hlo
  have HLO : Hid (w.heap.size ≤ lo) := Nat.le_trans HB1.out.size hlo
  have HSZ : Hid (w.heap.size ≤ w2.heap.size) := HB2.out.size
  have CB := Lib.hid (l12Begin_spec lo hi X d noP noC (.slice da m dc) L w2 hdr (clubB.none d) (by rw [HM.out]; exact HD2.out) (by rw [HM.out]; exact HIN.out))
  have HQ := Lib.hid hq
  have c2 := hdr.box.2 2 _ rfl
  have HNN : Hid (d.N = T.flatten.length) := hq.N
  clear hdr hq b hlo CN1
  rw [HQ.out.beg] at CB
  have HRx : Hid (R = (decide (m = d.N) && (begB (drwD F T gr most) L noP noC).isSome)) := by show _ = _; rw [HRE.out, HNN.out, ← HM.out]; rfl
  obtain ⟨bb, hbb⟩ : ∃ bb, begB (drwD F T gr most) L noP noC = bb := ⟨_, rfl⟩
  rw [hbb] at CB HRx
  clear hbb HRE
  generalize d.N = N at *
  by_cases hmN : m = N
  · have g1 : ((m : Int) == (N : Int)) = true := by simp [hmN]
    have HRy : Hid (R = bb.isSome) := by show _ = _; rw [HRx.out, decide_eq_true hmN]; rfl
    clear HRx hmN
    go_wp2_with fail
    refine CB.out.mono ?_
    rintro e w3 ⟨rfl, ht, _⟩
    have HB3 := Lib.hid (HB2.out.trans (ht.below HLO.out HSZ.out))
    clear ht CB
    go_wp2
    go_ret
    exact ⟨by rw [HRy.out]; rfl, HB3.out⟩
  · have g1 : ((m : Int) == (N : Int)) = false := by simp; omega
    obtain rfl : R = false := by rw [HRx.out, decide_eq_false hmN]; rfl
    clear hmN HRx
    go_wp2_with fail
    go_ret
    exact ⟨rfl, HB2.out⟩
def cdN (F : Nat → TeamD) (T : List (List Int)) (gr most : Int) (L : List Int) : Int := match begB (drwD F T gr most) L noP noC with | some (P, C) => (cntF (drwD F T gr most) (T.flatten.length - L.length) P C L.length : Nat) | none => 0
set_option maxRecDepth 100000 in
set_option maxHeartbeats 4000000 in
theorem countDraws_spec (hN : NewC) (vf : Value) (nf : Nat) (F : Nat → TeamD) (vp : Value) (gr most : Int) (T : List (List Int)) (vd : Value) (L : List Int) (R : Int) (w : World) (hR : potsP nf F T gr most → R = cdN F T gr most L) (hR0 : ¬ potsP nf F T gr most → R = 0) (hf : TeamRow w vf nf F) (hs : ∀ i, (F i).nm.size ≤ maxLen) (h : RdA tIntSS w [vp] T) (hw : tIntSS.wt T ≤ 1048576) (hd : IntRow w vd L.length (getI L)) :
    Calls Try.prog 32 #[vf, .agg #[vp, .int .i64 gr, .int .i64 most], vd] w fun e w' => e = .returned (.int .i64 R) ∧ Below w.heap.size w w' := by
  obtain ⟨pa, pc, rfl, hpn⟩ := pots_form h
  obtain ⟨da, dc, rfl, hdn, _⟩ := hd.form
  obtain ⟨r1, hr1⟩ := boolEx (potsP nf F T gr most)
  obtain ⟨U, hU⟩ : ∃ U, w.alloc (.cells #[.slice pa (List.length (α := List Int) T) pc, .int .i64 gr, .int .i64 most] 26) = U := ⟨_, rfl⟩
  have bU : Below w.heap.size w U := by rw [← hU]; exact (Below.refl _ _).alloc (Nat.le_refl _) _
  have HS : Hid (PotsAt U w.heap.size pa (List.length (α := List Int) T) pc gr most T) := by rw [← hU]; exact PotsAt.made h
  have HB := Lib.hid bU
  have HD : Hid (IntRow U (.slice da L.length dc) L.length (getI L)) := hd.below bU (Nat.le_refl _)
  have HF : Hid (TeamRow U vf nf F) := hf.below bU (Nat.le_refl _)
  have CF := Lib.hid (potsOk_spec vf nf F (.slice pa (List.length (α := List Int) T) pc) gr most T r1 U hr1 HF.out hs HS.out.2 hw)
  have CN : Hid (∀ wa, TeamRow wa vf nf F → RdA tIntSS wa [.slice pa (List.length (α := List Int) T) pc] T → potsP nf F T gr most → Calls Try.prog 65 #[vf, .agg #[.slice pa (List.length (α := List Int) T) pc, .int .i64 gr, .int .i64 most]] wa (NewM wa (drwD F T gr most))) := fun wa h1 h2 h3 => hN _ _ _ _ _ _ _ wa h1 h2 hw h3
  have HR1 := Lib.hid hr1
  have HRR := Lib.hid hR
  have HR0 := Lib.hid hR0
  obtain ⟨m, hm⟩ : ∃ m, L.length = m := ⟨_, rfl⟩
  have HM := Lib.hid hm
  obtain ⟨np, hnp⟩ : ∃ np, List.length (α := List Int) T = np := ⟨_, rfl⟩
  rw [hm] at hdn HD ⊢
  rw [hnp] at hU HS CF CN ⊢
  have c0 := HS.out.1.2 0 _ rfl
  have c1 := HS.out.1.2 1 _ rfl
  have c2 := HS.out.1.2 2 _ rfl
  clear h hf hR hR0 hr1 hd bU hw hs hN hm hnp hpn
  go_enter Try.func32, Try.ntmps32
  go_wp2_with fail
  clear hU c0 c1 c2
  refine CF.out.mono ?_
  rintro e w1 ⟨rfl, b⟩
  have HS1 := Lib.hid (HS.out.below b)
  have HF1 := Lib.hid (HF.out.below b (Nat.le_refl _))
  have HD1 := Lib.hid (HD.out.below b (Nat.le_refl _))
  have HB1 := Lib.hid (HB.out.trans (b.mono HB.out.size))
  clear b HS HB CF HF HD
  have c0 := HS1.out.1.2 0 _ rfl
  have c1 := HS1.out.1.2 1 _ rfl
  have c2 := HS1.out.1.2 2 _ rfl
  cases r1 with
  | false =>
    obtain rfl : R = 0 := HR0.out fun h => by have := HR1.out.2 h; cases this
    go_wp2
    go_ret
    exact ⟨rfl, HB1.out⟩
  | true =>
  have HP := Lib.hid (HR1.out.1 rfl)
  have HRE : Hid (R = cdN F T gr most L) := HRR.out HP.out
  have CN1 := Lib.hid (CN.out w1 HF1.out HS1.out.2 HP.out)
  clear HR1 HRR HR0 CN
  go_wp2_with fail
  clear c0 c1 c2
  refine CN1.out.mono ?_
  rintro e w2 ⟨lo, hi, X, d, rfl, hq, hdr, b, hlo⟩
  have HB2 := Lib.hid (HB1.out.trans (b.mono HB1.out.size))
  have HDr := Lib.hid hdr
  have HD2 : Hid (IntRow w2 (.slice da m dc) m (getI L)) := HD1.out.below b (Nat.le_refl _)
  have HIN : Hid (0 < m → InW 0 lo (.slice da m dc)) := fun h0 => InW.nat HD1.out h0 hlo
  have HLO : Hid (w.heap.size ≤ lo) := Nat.le_trans HB1.out.size hlo
  have HSZ : Hid (w.heap.size ≤ w2.heap.size) := HB2.out.size
  have CB := Lib.hid (l12Begin_spec lo hi X d noP noC (.slice da m dc) L w2 hdr (clubB.none d) (by rw [HM.out]; exact HD2.out) (by rw [HM.out]; exact HIN.out))
  have HQ := Lib.hid hq
  clear hdr b hlo CN1
  rw [HQ.out.beg] at CB
  have HRx : Hid (R = match begB (drwD F T gr most) L noP noC with | some (P, C) => (cntF (drwD F T gr most) (T.flatten.length - m) P C m : Nat) | none => 0) := by show _ = _; rw [HRE.out, ← HM.out]; rfl
  have HLN : Hid (∀ P C, begB (drwD F T gr most) L noP noC = some (P, C) → m + (T.flatten.length - m) = d.N) := fun P C h => by
    unfold begB at h
    split at h
    · next h9 => rw [HQ.out.N]; show m + (T.flatten.length - m) = T.flatten.length; have h8 : m ≤ T.flatten.length := by rw [← HM.out]; exact h9
                 omega
    · cases h
  obtain ⟨bb, hbb⟩ : ∃ bb, begB (drwD F T gr most) L noP noC = bb := ⟨_, rfl⟩
  rw [hbb] at CB HRx HLN
  clear hbb HRE hq
  go_wp2_with fail
  refine CB.out.mono ?_
  rintro e w3 ⟨rfl, ht, hst⟩
  have HB3 := Lib.hid (HB2.out.trans (ht.below HLO.out HSZ.out))
  clear ht CB
  cases bb with
  | none =>
    obtain rfl : R = 0 := HRx.out
    go_wp2
    go_ret
    exact ⟨rfl, HB3.out⟩
  | some st =>
    obtain ⟨P, C⟩ := st
    obtain ⟨hd3, hc3⟩ := hst P C rfl
    have CC := Lib.hid (l12Count_spec lo hi X d _ m P C w3 (HLN.out P C rfl) hd3 (by rw [← HM.out]; exact hc3))
    have HS3 : Hid (w.heap.size ≤ w3.heap.size) := HB3.out.size
    have HRy : Hid (R = (cntF (drwD F T gr most) (T.flatten.length - m) P C m : Nat)) := HRx.out
    clear hd3 hc3 hst HRx HLN
    rw [HQ.out.cnt] at CC
    generalize cntF (drwD F T gr most) (T.flatten.length - m) P C m = k at *
    go_wp2_with fail
    refine CC.out.mono ?_
    rintro e w4 ⟨rfl, _, ht⟩
    have HB4 := Lib.hid (HB3.out.trans (ht.below HLO.out HS3.out))
    clear ht CC
    go_wp2
    go_ret
    exact ⟨by rw [HRy.out]; rfl, HB4.out⟩
theorem int_offD {w w' : World} {v : Value} {n lo hi : Nat} {g : Nat → Int} {row : Option Nat} (h : IntRow w v n g) (hv : InW lo hi v) (hg : w.grownBy w' row) (hr : ∀ q, row = some q → q < lo ∨ hi ≤ q) : IntRow w' v n g := by
  cases row with
  | none => exact h.touch (Touch.grown (lo := hi) (hi := hi) hg (fun k hk => by cases hk)) (fun _ => hv) (.inl (Nat.le_refl _))
  | some q =>
    rcases hr q rfl with h1 | h1
    · exact h.touch (Touch.grown (lo := 0) (hi := lo) hg (fun k hk => by cases hk; omega)) (fun _ => hv) (.inr (Nat.le_refl _))
    · exact h.touch (Touch.grown (lo := hi) (hi := q + 1) hg (fun k hk => by cases hk; omega)) (fun _ => hv) (.inl (Nat.le_refl _))
def grpL (T : List Int) (L : List Int) (g : Int) (k : Nat) : List Int := ((List.range k).filter fun i => decide (i < L.length) && (getI L i == g)).map (getI T)
theorem grpL_succ (T L : List Int) (g : Int) (k : Nat) : grpL T L g (k + 1) = if k < L.length ∧ getI L k = g then grpL T L g k ++ [getI T k] else grpL T L g k := by
  unfold grpL
  rw [List.range_succ, List.filter_append, List.map_append]
  by_cases h : k < L.length ∧ getI L k = g
  · rw [if_pos h]
    congr 1
    rw [List.filter_cons_of_pos (by simp [h.1, h.2])]
    rfl
  · rw [if_neg h]
    rw [List.filter_cons_of_neg (by simp only [Bool.and_eq_true, decide_eq_true_eq, beq_iff_eq]; exact h)]
    simp
theorem grpL_len (T L : List Int) (g : Int) : ∀ k, (grpL T L g k).length ≤ k
  | k => by
    unfold grpL
    rw [List.length_map]
    exact Nat.le_trans (List.length_filter_le _ _) (by simp)
set_option maxRecDepth 100000 in
set_option maxHeartbeats 4000000 in
theorem groupOf_spec (vp : Value) (gr most : Int) (T : List (List Int)) (vd : Value) (L : List Int) (g : Int) (w : World) (h : RdA tIntSS w [vp] T) (hw : tIntSS.wt T ≤ 1048576) (hd : IntRow w vd L.length (getI L)) :
    Calls Try.prog 39 #[.agg #[vp, .int .i64 gr, .int .i64 most], vd, .int .i64 g] w (IntsL w (grpL T.flatten L g T.flatten.length)) := by
  obtain ⟨i0, hi, hz0, hz1, hz2⟩ := info_parts Try.infoI
  obtain ⟨pa, pc, rfl, hpn⟩ := pots_form h
  obtain ⟨da, dc, rfl, hdn, _⟩ := hd.form
  have hfl6 := Nat.le_trans (flat_wt (T := T)) hw
  obtain ⟨U, hU⟩ : ∃ U, w.alloc (.cells #[.slice pa (List.length (α := List Int) T) pc, .int .i64 gr, .int .i64 most] 26) = U := ⟨_, rfl⟩
  have bU : Below w.heap.size w U := by rw [← hU]; exact (Below.refl _ _).alloc (Nat.le_refl _) _
  have HS : Hid (PotsAt U w.heap.size pa (List.length (α := List Int) T) pc gr most T) := by rw [← hU]; exact PotsAt.made h
  have HB := Lib.hid bU
  have HD : Hid (IntRow U (.slice da L.length dc) L.length (getI L)) := hd.below bU (Nat.le_refl _)
  have CL : Hid (∀ wa, RdA tIntSS wa [.slice pa (List.length (α := List Int) T) pc] T → Calls Try.prog 59 #[.agg #[.slice pa (List.length (α := List Int) T) pc, .int .i64 gr, .int .i64 most]] wa (IntsL wa T.flatten)) := fun wa h => l12Teams_spec _ gr most T wa h hw
  obtain ⟨m, hm⟩ : ∃ m, L.length = m := ⟨_, rfl⟩
  have HM := Lib.hid hm
  obtain ⟨np, hnp⟩ : ∃ np, List.length (α := List Int) T = np := ⟨_, rfl⟩
  rw [hm] at hdn HD ⊢
  rw [hnp] at hU HS CL ⊢
  have c0 := HS.out.1.2 0 _ rfl
  have c1 := HS.out.1.2 1 _ rfl
  have c2 := HS.out.1.2 2 _ rfl
  clear h hd bU hw hm hnp hpn
  go_enter Try.func39, Try.ntmps39
  obtain ⟨U0, hU0⟩ : ∃ U0, U.alloc (.cells #[] 3) = U0 := ⟨_, rfl⟩
  have ON : Hid (U0.ownsRow U.heap.size 3 1 (.slice (some ⟨U.heap.size, 0, none⟩) 0 0) 0 []) := by rw [← hU0]; exact World.ownsRow_lit (e := 3) (size := 1) U #[] 0 (Nat.le_refl _) (by decide) rfl
  have bU0 : Below U.heap.size U U0 := by rw [← hU0]; exact (Below.refl _ _).alloc (Nat.le_refl _) _
  have HU0 := Lib.hid bU0
  have HS0 := Lib.hid (HS.out.below bU0)
  have hU9 : U.heap.size < U0.heap.size := by rw [← hU0]; simp
  have d0 := HS0.out.1.2 0 _ rfl
  have d1 := HS0.out.1.2 1 _ rfl
  have d2 := HS0.out.1.2 2 _ rfl
  have CL0 := Lib.hid (CL.out U0 HS0.out.2)
  generalize hFL : T.flatten = FL at *
  clear bU0 CL hFL
  go_wp2_with fail
  clear hU hU0 c0 c1 c2 d0 d1 d2
  refine CL0.out.mono ?_
  rintro e w1 h9
  obtain ⟨vt, rfl, htr, hown, b⟩ := IntsL.made h9 (by omega)
  obtain ⟨ta, tc, rfl, _, _⟩ := htr.form
  obtain ⟨xs9, hxs9⟩ := hown
  have HTI : Hid (InW U0.heap.size w1.heap.size (.slice ta FL.length tc)) := InW.of_owns hxs9
  have HB1 : Hid (Below U.heap.size U w1) := HU0.out.trans (b.mono HU0.out.size)
  have ON1 : Hid (w1.ownsRow U.heap.size 3 1 (.slice (some ⟨U.heap.size, 0, none⟩) 0 0) 0 []) := owns_below ON.out b (Nat.le_refl _)
  have HTR := Lib.hid htr
  clear h9 htr hxs9 b ON CL0 HS HS0
  obtain ⟨N, hN⟩ : ∃ N, FL.length = N := ⟨_, rfl⟩
  rw [hN] at hfl6 HTR HTI ⊢
  have HNN := Lib.hid hN
  clear hN
  go_wp2
  go_loopw [7, 14] (fun ov iv wr => ∃ (k : Nat) (out : List Int), k ≤ N ∧ iv = .int .i64 k ∧ Hid (out = grpL FL L g k) ∧ out.length ≤ k ∧ Hid (wr.ownsRow U.heap.size 3 1 ov out.length (out.map (Value.int .i64))) ∧ Hid (∀ q, ov.ownBlock = some q → q < U0.heap.size ∨ w1.heap.size ≤ q) ∧ Hid (Below U.heap.size U wr) ∧ Hid (IntRow wr (.slice ta N tc) N (getI FL)) ∧ Hid (w1.heap.size ≤ wr.heap.size)) (fun _ iv _ => N - (RowKit.intOf iv).toNat)
  case atStart => exact ⟨0, [], Nat.zero_le _, rfl, rfl, Nat.le_refl _, ON1, fun q hq => by simp only [Value.ownBlock, Option.some.injEq] at hq; omega, HB1, HTR, Nat.le_refl _⟩
  case round =>
    clear ON1 HB1 HTR
    obtain ⟨k, out, hk9, rfl, HV, hl6, HO, HQ, HBr, HTR, HSZ⟩ := hrel
    obtain ⟨oa, oc, hof⟩ := owns_form HO.out
    subst hof
    by_cases hlt : k < N
    · obtain ⟨b, off, rfl, hcap, q0⟩ := int_at HTR.out hlt
      have hj1 : (k : Int) < (N : Int) := by omega
      have HDr : Hid (IntRow wr (.slice da m dc) m (getI L)) := HD.out.below HBr.out (Nat.le_refl _)
      have HVN := Lib.hid (grpL_succ FL L g k)
      rw [HM.out] at HVN
      generalize getI FL k = x at *
      by_cases hkm : k < m
      · obtain ⟨b2, off2, rfl, hcap2, q2⟩ := int_at HDr.out hkm
        have hj2 : (k : Int) < (m : Int) := by omega
        generalize getI L k = y at *
        by_cases hy : y = g
        · have g2 : (y == g) = true := by simp [hy]
          have HVx : Hid (out ++ [x] = grpL FL L g (k + 1)) := by show _ = _; rw [HVN.out, if_pos ⟨hkm, hy⟩, ← HV.out]
          have hszr := HBr.out.size
          have HO3 := HO
          clear HVN hy HDr
          go_wp2_with (at_builtin; refine wpList_pushL rfl (.tmp 31) (.tmp 33) 31 rfl U.heap.size 3 Try.underlying31 hi hz0 hz1 hz2 rfl (by decide) [.int .i64 x] rfl (by intro u hu; simp at hu; subst hu; rfl) rfl (by show Value.slice (some ⟨_, 0, none⟩) 1 1 = _; simp) HO3.out (by unfold maxLen; omega) (by omega) hszr ?_; intro gg5 cc5 w5 o5 g5 at5 lt5; have O5 := Lib.hid o5; have HB5 := Lib.hid (HBr.out.grown g5 hszr (fun q hq => (HO3.out.lt q hq).1)); have HT5 := Lib.hid (int_offD HTR.out HTI.out g5 HQ.out); have HS5 : Hid (w1.heap.size ≤ w5.heap.size) := Nat.le_trans HSZ.out g5.size; have HQ5 : Hid (gg5 < U0.heap.size ∨ w1.heap.size ≤ gg5) := (by rcases at5 with h | h; exact HQ.out _ h; exact .inr (Nat.le_trans HSZ.out h)); clear o5 g5 at5 lt5)
          go_roundw
          case rel => exact ⟨k + 1, out ++ [x], by omega, by go_num, HVx, by rw [List.length_append, List.length_singleton]; omega, by rw [List.length_append, List.map_append]; exact O5, fun q hq => by simp only [Value.ownBlock, Option.some.injEq] at hq; subst hq; exact HQ5.out, HB5, HT5, HS5⟩
          case measure => simp [RowKit.intOf]; omega
        · have g2 : (y == g) = false := by simp [hy]
          have HVx : Hid (out = grpL FL L g (k + 1)) := by show _ = _; rw [HVN.out, if_neg (fun h => hy h.2), ← HV.out]
          clear HVN hy HDr
          go_wp2
          go_roundw
          case rel => exact ⟨k + 1, out, by omega, by go_num, HVx, by omega, HO, HQ, HBr, HTR, HSZ⟩
          case measure => simp [RowKit.intOf]; omega
      · have g2 : decide ((k : Int) < (m : Int)) = false := decide_eq_false (by omega)
        have g2' : decide (k < m) = false := decide_eq_false (by omega)
        have HVx : Hid (out = grpL FL L g (k + 1)) := by show _ = _; rw [HVN.out, if_neg (fun h => hkm h.1), ← HV.out]
        clear HVN HDr
        go_wp2
        go_roundw
        case rel => exact ⟨k + 1, out, by omega, by go_num, HVx, by omega, HO, HQ, HBr, HTR, HSZ⟩
        case measure => simp [RowKit.intOf]; omega
    obtain rfl : k = N := by omega
    go_wp2
    go_ret
    rw [HNN.out, ← HV.out]
    exact ⟨_, rfl, owns_mono HO.out HB.out.size, HB.out.trans (HBr.out.mono HB.out.size)⟩
end Go.Proofs.Ytmhkkdnopcdibaa
set_option linter.unusedVariables false
namespace Go.Proofs.Ytmhkkdnopcdibaa
open Go.RowKit

theorem owns_lowF {w : World} {base : Nat} {e : TypeId} {size n : Nat} {v : Value} {xs : List Value} (h : w.ownsRow base e size v n xs) {B : Nat} (j : Nat) (u : Value) (hB : B < base) : (w.setCell ⟨B, j, none⟩ u).ownsRow base e size v n xs :=
  ownsRow_setCell_other h (fun e => by have := (h.lt B e).1; omega) u
structure Fam (w : World) (lo : Nat) (t : TypeId) (v : Value) (n m : Nat) (rt : TypeId) (z : Value) (r : Nat → Nat) : Prop where
  own : w.ownsRow lo t 1 v n ((List.range n).map fun a => Value.slice (some ⟨r a, 0, none⟩) m m)
  row : ∀ a, a < n → lo ≤ r a ∧ r a < w.heap.size ∧ v.ownBlock ≠ some (r a) ∧ w.rowIs (r a) rt m (fun _ => z)
  inj : ∀ a b, a < n → b < n → a ≠ b → r a ≠ r b
def famUses (v : Value) (n : Nat) (r : Nat → Nat) (b : Nat) : Prop := v.ownBlock = some b ∨ ∃ a, a < n ∧ r a = b
theorem Fam.nil (w : World) (lo : Nat) (t : TypeId) (m : Nat) (rt : TypeId) (z : Value) : Fam w lo t (.slice none 0 0) 0 m rt z id :=
  ⟨World.ownsRow_nil _ _ _ _, fun a ha => absurd ha (Nat.not_lt_zero _), fun a b ha => absurd ha (Nat.not_lt_zero _)⟩
section
variable {w : World} {lo : Nat} {t : TypeId} {v : Value} {n m : Nat} {rt : TypeId} {z : Value} {r : Nat → Nat}
theorem Fam.lt (h : Fam w lo t v n m rt z r) {b : Nat} (hb : famUses v n r b) : lo ≤ b ∧ b < w.heap.size := by
  rcases hb with hb | ⟨a, ha, rfl⟩
  · exact h.own.lt _ hb
  · exact ⟨(h.row a ha).1, (h.row a ha).2.1⟩
theorem Fam.keep {w' : World} {row : Option Nat} (h : Fam w lo t v n m rt z r) (hg : w.grownBy w' row) (hr : ∀ b, row = some b → ¬ famUses v n r b) : Fam w' lo t v n m rt z r := by
  refine ⟨h.own.kept hg ?_, fun a ha => ?_, h.inj⟩
  · cases hv : v.ownBlock with
    | none => exact .inl rfl
    | some b => exact .inr fun e => hr b e.symm (.inl hv)
  · obtain ⟨h1, h2, h3, h4⟩ := h.row a ha
    exact ⟨h1, Nat.lt_of_lt_of_le h2 hg.size, h3, h4.of_block (hg.block _ h2 fun e => hr _ e.symm (.inr ⟨a, ha, rfl⟩))⟩
theorem Fam.below {w' : World} (h : Fam w lo t v n m rt z r) (hb : Below w.heap.size w w') : Fam w' lo t v n m rt z r :=
  h.keep (row := none) ⟨hb.os, hb.tape, hb.output, hb.size, fun k hk _ => hb.block k hk⟩ fun b e => by cases e
theorem Fam.low (h : Fam w lo t v n m rt z r) {B : Nat} (j : Nat) (u : Value) (hB : B < lo) : Fam (w.setCell ⟨B, j, none⟩ u) lo t v n m rt z r :=
  ⟨owns_lowF h.own j u hB, fun a ha => by
    obtain ⟨h1, h2, h3, h4⟩ := h.row a ha
    exact ⟨h1, by simpa [World.setCell] using h2, h3, h4.setOther (by show r a ≠ B; omega) u⟩, h.inj⟩
theorem Fam.push {o : Obj} {w3 : World} {v' : Value} (h : Fam w lo t v n m rt z r) (hlo : lo ≤ w.heap.size) (hg : ((w.alloc (.cells (madeCells #[z] m) rt)).alloc o).grownBy w3 v.ownBlock)
    (ho : w3.ownsRow lo t 1 v' (n + 1) (((List.range n).map fun a => Value.slice (some ⟨r a, 0, none⟩) m m) ++ [.slice (some ⟨w.heap.size, 0, none⟩) m m]))
    (hat : ∀ b, v'.ownBlock = some b → v.ownBlock = some b ∨ w.heap.size < b) :
    ∃ r', Fam w3 lo t v' (n + 1) m rt z r' ∧ ∀ b, famUses v' (n + 1) r' b → famUses v n r b ∨ w.heap.size ≤ b := by
  obtain ⟨R, hR1, hR2⟩ : ∃ R : Nat → Nat, R n = w.heap.size ∧ ∀ a, a ≠ n → R a = r a := ⟨fun a => if a = n then w.heap.size else r a, if_pos rfl, fun a h => if_neg h⟩
  have hs2 : ((w.alloc (.cells (madeCells #[z] m) rt)).alloc o).heap.size = w.heap.size + 2 := by simp
  have hs3 := hg.size
  have hvl : ∀ b, v.ownBlock = some b → b < w.heap.size := fun b hb => (h.own.lt b hb).2
  refine ⟨R, ⟨?_, fun a ha => ?_, fun a b ha hb hab => ?_⟩, fun b hb => ?_⟩
  · rw [List.range_succ, List.map_append, List.map_singleton, hR1]
    have e : ((List.range n).map fun a => Value.slice (some ⟨R a, 0, none⟩) m m) = (List.range n).map fun a => Value.slice (some ⟨r a, 0, none⟩) m m :=
      List.map_congr_left fun a ha => by rw [hR2 a (by have := List.mem_range.1 ha; omega)]
    rw [e]
    exact ho
  · by_cases e : a = n
    · rw [e, hR1]
      refine ⟨hlo, by omega, fun e2 => ?_, ?_⟩
      · rcases hat _ e2 with h1 | h1
        · have := hvl _ h1; omega
        · omega
      · refine World.rowIs.of_block ((World.rowIs_made w z m rt).alloc o) (hg.block _ (by omega) fun e2 => ?_)
        have := hvl _ e2.symm
        omega
    · obtain ⟨h1, h2, h3, h4⟩ := h.row a (by omega)
      rw [hR2 a e]
      refine ⟨h1, by omega, fun e2 => ?_, ?_⟩
      · rcases hat _ e2 with h5 | h5
        · exact h3 h5
        · omega
      · exact World.rowIs.of_block ((h4.alloc _).alloc o) (hg.block _ (by omega) fun e2 => h3 e2.symm)
  · by_cases e1 : a = n
    · rw [e1, hR1, hR2 b (by omega)]
      have := (h.row b (by omega)).2.1
      omega
    · rw [hR2 a e1]
      have := (h.row a (by omega)).2.1
      by_cases e2 : b = n
      · rw [e2, hR1]; omega
      · rw [hR2 b e2]; exact h.inj a b (by omega) (by omega) hab
  · rcases hb with hb | ⟨a, ha, rfl⟩
    · rcases hat b hb with h1 | h1
      · exact .inl (.inl h1)
      · exact .inr (by omega)
    · by_cases e : a = n
      · rw [e, hR1]; exact .inr (Nat.le_refl _)
      · rw [hR2 a e]; exact .inl (.inr ⟨a, by omega, rfl⟩)
theorem Fam.mat (h : Fam w lo t v n m rt z r) (h0 : 0 < n) : ∃ gb cap, v = .slice (some ⟨gb, 0, none⟩) n cap ∧ Mat w lo w.heap.size gb cap r (fun _ => m) n m (fun _ _ => z) := by
  have ho := h.own
  rcases ho.2 with hn | ⟨g, cap, cur, rfl, hbg, hgg, h1, h2, h3, h4⟩
  · omega
  have hlt := ho.lt g rfl
  refine ⟨g, cap, rfl, by omega, hlt, Nat.le_refl _, fun a ha => ?_, fun a ha => Nat.le_refl _, fun a ha => ⟨(h.row a ha).1, (h.row a ha).2.1, fun e => (h.row a ha).2.2.1 (by rw [e]; rfl)⟩, h.inj, fun a j ha hj => ⟨(h.row a ha).2.2.2.cell hj, (h.row a ha).2.2.2.frozen j⟩⟩
  rw [ho.cellAt a (by omega), List.getElem?_map, List.getElem?_range ha]
  rfl
end
end Go.Proofs.Ytmhkkdnopcdibaa
