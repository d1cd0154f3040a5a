/-
  Packed: RsnText.
-/
import Derived.Lib.ItoaLen
import Derived.Test.YteciobkjfmddcaaDoorQ8
import Derived.Test.YteciobkjfmddcaaDoorQ10
set_option linter.unusedVariables false
namespace Go.Proofs.YteciobkjfmddcaaDoor
open Go.RowKit

def nmG (b : BookD) (g : Nat → Int) (i : Nat) : ByteArray := (b.f (g i).toNat).nm
def itoaB (n : Int) : ByteArray := ⟨(Lib.itoa n).toArray⟩
def rsnT (b : BookD) (k f o : Int) (n : Nat) (g : Nat → Int) : ByteArray :=
  if mutualB k = true then knmI k ++ ⟨#[32]⟩ ++ itoaB f ++ ⟨#[58]⟩ ++ itoaB o ++ ⟨#[32]⟩ ++ jn ⟨#[43]⟩ (nmG b g) n else knmI k ++ ⟨#[32]⟩ ++ itoaB f ++ ⟨#[58]⟩ ++ itoaB o
def textP (b : BookD) (k : Int) (n : Nat) (g : Nat → Int) : Prop := bookP b ∧ (1 ≤ k ∧ k ≤ 8) ∧ teamsP b.nf n g
theorem itoaB_size {n : Int} (h : isInt n) : (itoaB n).size ≤ 21 := by
  show (Lib.itoa n).toArray.size ≤ 21
  rw [List.size_toArray]
  exact Lib.itoa_length_le n h.1 h.2
theorem nm_size {b : BookD} {n : Nat} {g : Nat → Int} (hp : bookP b) (ht : teamsP b.nf n g) : ∀ i, i < n → (nmG b g i).size ≤ 8 := fun i hi => by
  have h1 := hp.1.2 (g i).toNat (by have := ht i hi; omega)
  have h2 : nameB (b.f (g i).toNat).nm = true := h1.1.1
  unfold nameB at h2
  have h3 := of_decide_eq_true h2
  exact h3.2.1
theorem tot_le {g : Nat → ByteArray} : ∀ n, (∀ i, i < n → (g i).size ≤ 8) → tot g n ≤ 8 * n
  | 0, _ => Nat.le_refl _
  | n + 1, h => by
    have := tot_le n (fun i hi => h i (by omega))
    have := h n (by omega)
    unfold tot; omega
theorem team_name {w : World} {a : Option Addr} {c n : Nat} {t : Nat} {f : Nat → TeamD} (h : TeamRow w (.slice a n c) n f) (ht : t < n) : ∃ bo off, a = some ⟨bo, off, none⟩ ∧ n ≤ c ∧ w.cell? ⟨bo, off + t * 3, none⟩ = some (.string (f t).nm) := by
  rcases h with ⟨_, _, _, h1⟩ | ⟨b', off, c', he, _, h3, hc, hcap⟩
  · omega
  · simp only [Value.slice.injEq, true_and] at he
    obtain ⟨rfl, rfl⟩ := he
    exact ⟨b', off, rfl, hcap, (hc t ht).1⟩
theorem knm_size (m : Nat) (h1 : 1 ≤ m) (h8 : m ≤ 8) : (knm m).size ≤ 100 := by
  have : m = 1 ∨ m = 2 ∨ m = 3 ∨ m = 4 ∨ m = 5 ∨ m = 6 ∨ m = 7 ∨ m = 8 := by omega
  rcases this with rfl | rfl | rfl | rfl | rfl | rfl | rfl | rfl <;> decide
theorem knm_facts {k : Int} (hk : 1 ≤ k ∧ k ≤ 8) : (knmI k).toList.isEmpty = false ∧ (knmI k).toList ≠ [] ∧ (knmI k).size ≤ 100 := by
  unfold knmI
  rw [if_pos hk]
  refine ⟨(knm_ne k.toNat (by omega) (by omega)).1, (knm_ne k.toNat (by omega) (by omega)).2, knm_size k.toNat (by omega) (by omega)⟩
theorem knm_none {k : Int} (hk : ¬ (1 ≤ k ∧ k ≤ 8)) : knmI k = ⟨#[]⟩ := by unfold knmI; rw [if_neg hk]

set_option maxRecDepth 100000 in
set_option maxHeartbeats 2000000 in
theorem reasonText_spec_no (vf vl vg vfa vta : Value) (b : BookD) (k f o : Int) (v : Value) (n : Nat) (g : Nat → Int) (w : World) (hR : ¬ textP b k n g) (h : BookRow w vf vl vg vfa vta b) (hs : ∀ i, (b.f i).nm.size ≤ maxLen) (hv : IntRow w v n g) (hn6 : n ≤ 1048576) (hf : isInt f) (ho : isInt o) :
    Calls Tryd.prog 6 #[.agg #[vf, .int .i64 b.win, .int .i64 b.draw, .int .i64 b.loss, vl, .bool b.again, vg, vfa, vta], .agg #[.int .i64 k, v, .int .i64 f, .int .i64 o]] w fun e w' => e = .returned (.string ⟨#[]⟩) ∧ Below w.heap.size w w' := by
  obtain ⟨fa, fc, la, lc, ga, gc, qa, qc, ta, tc, rfl, rfl, rfl, rfl, rfl⟩ := h.form
  obtain ⟨xa, xc, rfl, _, _⟩ := hv.form
  obtain ⟨r1, hr1⟩ := boolEx (bookP b)
  obtain ⟨r2, hr2⟩ := boolEx (teamsP b.nf n g)
  have C1 := Lib.hid (fun wa h1 => bookOk_spec (.slice fa b.nf fc) (.slice la b.nl lc) (.slice ga b.m gc) (.slice qa b.nfa qc) (.slice ta b.nta tc) b r1 wa hr1 h1 hs)
  have CK : Hid (∀ wa, Calls Tryd.prog 17 #[.int .i64 k] wa fun e w' => e = .returned (.string (knmI k)) ∧ Below wa.heap.size wa w') := fun wa => (keyName_spec k wa).mono fun e w' h => ⟨h.1, h.2⟩
  have C2 := Lib.hid (fun wa h1 h2 => l07Teams_spec (.slice fa b.nf fc) (.slice la b.nl lc) (.slice ga b.m gc) (.slice qa b.nfa qc) (.slice ta b.nta tc) b (.slice xa n xc) n g r2 wa hr2 h1 h2)
  have HX : Hid (r1 = true → (1 ≤ k ∧ k ≤ 8) → r2 = false) := fun e1 hk => by
    cases r2 with
    | false => rfl
    | true => exact absurd ⟨hr1.1 e1, hk, hr2.1 rfl⟩ hR
  have hsix := h.sixty
  have K0 := Lib.hid ((BkAt.made h 38).alloc (.cells #[.int .i64 k, .slice xa n xc, .int .i64 f, .int .i64 o] 40))
  have R0 := Lib.hid (BoxN.made (u := w.alloc (.cells #[.slice fa b.nf fc, .int .i64 b.win, .int .i64 b.draw, .int .i64 b.loss, .slice la b.nl lc, .bool b.again, .slice ga b.m gc, .slice qa b.nfa qc, .slice ta b.nta tc] 38)) (cs := #[.int .i64 k, .slice xa n xc, .int .i64 f, .int .i64 o]) (t := 40) (B := w.heap.size + 1) (Below.refl _ _) (by simp))
  have HV := Lib.hid hv
  clear hR hr1 hr2 h hs hv
  obtain ⟨U, hU⟩ : ∃ U, (w.alloc (.cells #[.slice fa b.nf fc, .int .i64 b.win, .int .i64 b.draw, .int .i64 b.loss, .slice la b.nl lc, .bool b.again, .slice ga b.m gc, .slice qa b.nfa qc, .slice ta b.nta tc] 38)).alloc (.cells #[.int .i64 k, .slice xa n xc, .int .i64 f, .int .i64 o] 40) = U := ⟨_, rfl⟩
  have hU' : (w.alloc (.cells (bkList fa fc la lc ga gc qa qc ta tc b).toArray 38)).alloc (.cells #[.int .i64 k, .slice xa n xc, .int .i64 f, .int .i64 o] 40) = U := hU
  rw [hU'] at K0
  rw [hU] at R0
  clear hU'
  obtain ⟨d0, d1, d2, d3, d4, d5, d6, d7, d8⟩ := K0.out.cells
  go_enter Tryd.func6, Tryd.ntmps6
  go_wp2_with fail
  refine (C1.out _ K0.out.row).mono ?_
  rintro e w1 ⟨rfl, b1⟩
  clear hU
  have K1 := Lib.hid (K0.out.next b1)
  have R1 := Lib.hid (BoxN.below R0.out b1)
  clear d0 d1 d2 d3 d4 d5 d6 d7 d8 K0 R0 b1
  cases r1 with
  | false =>
    have HE := Lib.hid K1.out.bel
    go_wp2
    go_ret
    exact ⟨rfl, HE.out⟩
  | true =>
    have c0 := R1.out.2 0 _ rfl
    by_cases hk : 1 ≤ k ∧ k ≤ 8
    case neg =>
      rw [knm_none hk] at CK
      go_wp2_with fail
      refine (CK.out _).mono ?_
      rintro e w2 ⟨rfl, b2⟩
      have HE := Lib.hid (K1.out.bel.trans (b2.mono K1.out.bel.size))
      clear b2
      have e0 : (ByteArray.mk #[]).toList.isEmpty = true := emp_yes _ (by decide)
      go_wp2
      go_ret
      exact ⟨rfl, HE.out⟩
    obtain rfl := HX.out (by first | rfl | trivial) hk
    have hkf := knm_facts hk
    generalize knmI k = Z at *
    have e0 := hkf.1
    have e1 := hkf.2.1
    go_wp2_with fail
    refine (CK.out _).mono ?_
    rintro e w2 ⟨rfl, b2⟩
    have K2 := Lib.hid (K1.out.next b2)
    have R2 := Lib.hid (BoxN.below R1.out b2)
    clear c0 K1 R1 b2 hkf
    obtain ⟨d0, d1, d2, d3, d4, d5, d6, d7, d8⟩ := K2.out.cells
    have c1 := R2.out.2 1 _ rfl
    go_wp2_with fail
    refine (C2.out _ K2.out.row (HV.out.below K2.out.bel (Nat.le_refl _))).mono ?_
    rintro e w3 ⟨rfl, b3⟩
    have HE := Lib.hid (K2.out.bel.trans (b3.mono K2.out.bel.size))
    clear d0 d1 d2 d3 d4 d5 d6 d7 d8 c1 b3 K2 R2
    go_wp2
    go_ret
    exact ⟨rfl, HE.out⟩

set_option maxRecDepth 100000 in
set_option maxHeartbeats 2000000 in
theorem reasonText_impl_no (vf vl vg vfa vta : Value) (b : BookD) (k f o : Int) (v : Value) (n : Nat) (g : Nat → Int) (w : World) (hR : ¬ textP b k n g) (h : BookRow w vf vl vg vfa vta b) (hs : ∀ i, (b.f i).nm.size ≤ maxLen) (hv : IntRow w v n g) (hn6 : n ≤ 1048576) (hf : isInt f) (ho : isInt o) :
    Calls Tryd.prog 9 #[.agg #[vf, .int .i64 b.win, .int .i64 b.draw, .int .i64 b.loss, vl, .bool b.again, vg, vfa, vta], .agg #[.int .i64 k, v, .int .i64 f, .int .i64 o]] w fun e w' => e = .returned (.string ⟨#[]⟩) ∧ Below w.heap.size w w' := by
  obtain ⟨fa, fc, la, lc, ga, gc, qa, qc, ta, tc, rfl, rfl, rfl, rfl, rfl⟩ := h.form
  obtain ⟨xa, xc, rfl, _, _⟩ := hv.form
  obtain ⟨r1, hr1⟩ := boolEx (bookP b)
  obtain ⟨r2, hr2⟩ := boolEx (teamsP b.nf n g)
  have C1 := Lib.hid (fun wa h1 => bookOk_impl (.slice fa b.nf fc) (.slice la b.nl lc) (.slice ga b.m gc) (.slice qa b.nfa qc) (.slice ta b.nta tc) b r1 wa hr1 h1 hs)
  have CK : Hid (∀ wa, Calls Tryd.prog 27 #[.int .i64 k] wa fun e w' => e = .returned (.string (knmI k)) ∧ Below wa.heap.size wa w') := fun wa => (keyName_impl k wa).mono fun e w' h => ⟨h.1, h.2 ▸ Below.refl _ _⟩
  have C2 := Lib.hid (fun wa h1 h2 => areTeams_impl (.slice fa b.nf fc) (.slice la b.nl lc) (.slice ga b.m gc) (.slice qa b.nfa qc) (.slice ta b.nta tc) b (.slice xa n xc) n g r2 wa hr2 h1 h2)
  have HX : Hid (r1 = true → (1 ≤ k ∧ k ≤ 8) → r2 = false) := fun e1 hk => by
    cases r2 with
    | false => rfl
    | true => exact absurd ⟨hr1.1 e1, hk, hr2.1 rfl⟩ hR
  have hsix := h.sixty
  have K0 := Lib.hid ((BkAt.made h 38).alloc (.cells #[.int .i64 k, .slice xa n xc, .int .i64 f, .int .i64 o] 40))
  have R0 := Lib.hid (BoxN.made (u := w.alloc (.cells #[.slice fa b.nf fc, .int .i64 b.win, .int .i64 b.draw, .int .i64 b.loss, .slice la b.nl lc, .bool b.again, .slice ga b.m gc, .slice qa b.nfa qc, .slice ta b.nta tc] 38)) (cs := #[.int .i64 k, .slice xa n xc, .int .i64 f, .int .i64 o]) (t := 40) (B := w.heap.size + 1) (Below.refl _ _) (by simp))
  have HV := Lib.hid hv
  clear hR hr1 hr2 h hs hv
  obtain ⟨U, hU⟩ : ∃ U, (w.alloc (.cells #[.slice fa b.nf fc, .int .i64 b.win, .int .i64 b.draw, .int .i64 b.loss, .slice la b.nl lc, .bool b.again, .slice ga b.m gc, .slice qa b.nfa qc, .slice ta b.nta tc] 38)).alloc (.cells #[.int .i64 k, .slice xa n xc, .int .i64 f, .int .i64 o] 40) = U := ⟨_, rfl⟩
  have hU' : (w.alloc (.cells (bkList fa fc la lc ga gc qa qc ta tc b).toArray 38)).alloc (.cells #[.int .i64 k, .slice xa n xc, .int .i64 f, .int .i64 o] 40) = U := hU
  rw [hU'] at K0
  rw [hU] at R0
  clear hU'
  obtain ⟨d0, d1, d2, d3, d4, d5, d6, d7, d8⟩ := K0.out.cells
  go_enter Tryd.func9, Tryd.ntmps9
  go_wp2_with fail
  refine (C1.out _ K0.out.row).mono ?_
  rintro e w1 ⟨rfl, b1⟩
  clear hU
  have K1 := Lib.hid (K0.out.next b1)
  have R1 := Lib.hid (BoxN.below R0.out b1)
  clear d0 d1 d2 d3 d4 d5 d6 d7 d8 K0 R0 b1
  cases r1 with
  | false =>
    have HE := Lib.hid K1.out.bel
    go_wp2
    go_ret
    exact ⟨rfl, HE.out⟩
  | true =>
    have c0 := R1.out.2 0 _ rfl
    by_cases hk : 1 ≤ k ∧ k ≤ 8
    case neg =>
      rw [knm_none hk] at CK
      go_wp2_with fail
      refine (CK.out _).mono ?_
      rintro e w2 ⟨rfl, b2⟩
      have HE := Lib.hid (K1.out.bel.trans (b2.mono K1.out.bel.size))
      clear b2
      have e0 : (ByteArray.mk #[]).toList.isEmpty = true := emp_yes _ (by decide)
      go_wp2
      go_ret
      exact ⟨rfl, HE.out⟩
    obtain rfl := HX.out (by first | rfl | trivial) hk
    have hkf := knm_facts hk
    generalize knmI k = Z at *
    have e0 := hkf.1
    have e1 := hkf.2.1
    go_wp2_with fail
    refine (CK.out _).mono ?_
    rintro e w2 ⟨rfl, b2⟩
    have K2 := Lib.hid (K1.out.next b2)
    have R2 := Lib.hid (BoxN.below R1.out b2)
    clear c0 K1 R1 b2 hkf
    obtain ⟨d0, d1, d2, d3, d4, d5, d6, d7, d8⟩ := K2.out.cells
    have c1 := R2.out.2 1 _ rfl
    go_wp2_with fail
    refine (C2.out _ K2.out.row (HV.out.below K2.out.bel (Nat.le_refl _))).mono ?_
    rintro e w3 ⟨rfl, b3⟩
    have HE := Lib.hid (K2.out.bel.trans (b3.mono K2.out.bel.size))
    clear d0 d1 d2 d3 d4 d5 d6 d7 d8 c1 b3 K2 R2
    go_wp2
    go_ret
    exact ⟨rfl, HE.out⟩

set_option maxRecDepth 100000 in
set_option maxHeartbeats 4000000 in
theorem reasonText_spec_yes (vf vl vg vfa vta : Value) (b : BookD) (k f o : Int) (v : Value) (n : Nat) (g : Nat → Int) (w : World) (hp : textP b k n g) (h : BookRow w vf vl vg vfa vta b) (hs : ∀ i, (b.f i).nm.size ≤ maxLen) (hv : IntRow w v n g) (hn6 : n ≤ 1048576) (hf : isInt f) (ho : isInt o) :
    Calls Tryd.prog 6 #[.agg #[vf, .int .i64 b.win, .int .i64 b.draw, .int .i64 b.loss, vl, .bool b.again, vg, vfa, vta], .agg #[.int .i64 k, v, .int .i64 f, .int .i64 o]] w fun e w' => e = .returned (.string (rsnT b k f o n g)) ∧ Below w.heap.size w w' := by
  obtain ⟨i0, hi, hz0, hz1, hz2⟩ := info_parts Tryd.infoS
  obtain ⟨fa, fc, la, lc, ga, gc, qa, qc, ta, tc, rfl, rfl, rfl, rfl, rfl⟩ := h.form
  obtain ⟨xa, xc, rfl, hx64, _⟩ := hv.form
  have C1 := Lib.hid (fun wa h1 => bookOk_spec (.slice fa b.nf fc) (.slice la b.nl lc) (.slice ga b.m gc) (.slice qa b.nfa qc) (.slice ta b.nta tc) b true wa ⟨fun _ => hp.1, fun _ => rfl⟩ h1 hs)
  have CK : Hid (∀ wa, Calls Tryd.prog 17 #[.int .i64 k] wa fun e w' => e = .returned (.string (knmI k)) ∧ Below wa.heap.size wa w') := fun wa => (keyName_spec k wa).mono fun e w' h => ⟨h.1, h.2⟩
  have C2 := Lib.hid (fun wa h1 h2 => l07Teams_spec (.slice fa b.nf fc) (.slice la b.nl lc) (.slice ga b.m gc) (.slice qa b.nfa qc) (.slice ta b.nta tc) b (.slice xa n xc) n g true wa ⟨fun _ => hp.2.2, fun _ => rfl⟩ h1 h2)
  have CMU : Hid (∀ wa, Calls Tryd.prog 20 #[.int .i64 k] wa fun e w' => e = .returned (.bool (mutualB k)) ∧ wa = w') := fun wa => (isMutual_spec k wa).mono fun e w' h => ⟨h.1, h.2⟩
  have CF : Hid (∀ wa, Calls Tryd.prog 19 #[.int .i64 f] wa fun e w' => e = .returned (.string (itoaB f)) ∧ Below wa.heap.size wa w') := fun wa => formatInt_spec f wa hf
  have CO : Hid (∀ wa, Calls Tryd.prog 19 #[.int .i64 o] wa fun e w' => e = .returned (.string (itoaB o)) ∧ Below wa.heap.size wa w') := fun wa => formatInt_spec o wa ho
  have hsix := h.sixty
  have K0 := Lib.hid ((BkAt.made h 38).alloc (.cells #[.int .i64 k, .slice xa n xc, .int .i64 f, .int .i64 o] 40))
  have R0 := Lib.hid (BoxN.made (u := w.alloc (.cells #[.slice fa b.nf fc, .int .i64 b.win, .int .i64 b.draw, .int .i64 b.loss, .slice la b.nl lc, .bool b.again, .slice ga b.m gc, .slice qa b.nfa qc, .slice ta b.nta tc] 38)) (cs := #[.int .i64 k, .slice xa n xc, .int .i64 f, .int .i64 o]) (t := 40) (B := w.heap.size + 1) (Below.refl _ _) (by simp))
  have HV := Lib.hid hv
  have HTM := Lib.hid hp.2.2
  have HNM := Lib.hid (nm_size hp.1 hp.2.2)
  have hkf := knm_facts hp.2.1
  have hFs := itoaB_size hf
  have hOs := itoaB_size ho
  have HR : Hid (rsnT b k f o n g = if mutualB k = true then knmI k ++ ⟨#[32]⟩ ++ itoaB f ++ ⟨#[58]⟩ ++ itoaB o ++ ⟨#[32]⟩ ++ jn ⟨#[43]⟩ (nmG b g) n else knmI k ++ ⟨#[32]⟩ ++ itoaB f ++ ⟨#[58]⟩ ++ itoaB o) := rfl
  generalize rsnT b k f o n g = RT at *
  generalize knmI k = Z at *
  generalize itoaB f = Fs at *
  generalize itoaB o = Os at *
  generalize mutualB k = mu at *
  clear h hs hv hp
  obtain ⟨U, hU⟩ : ∃ U, (w.alloc (.cells #[.slice fa b.nf fc, .int .i64 b.win, .int .i64 b.draw, .int .i64 b.loss, .slice la b.nl lc, .bool b.again, .slice ga b.m gc, .slice qa b.nfa qc, .slice ta b.nta tc] 38)).alloc (.cells #[.int .i64 k, .slice xa n xc, .int .i64 f, .int .i64 o] 40) = U := ⟨_, rfl⟩
  have hU' : (w.alloc (.cells (bkList fa fc la lc ga gc qa qc ta tc b).toArray 38)).alloc (.cells #[.int .i64 k, .slice xa n xc, .int .i64 f, .int .i64 o] 40) = U := hU
  rw [hU'] at K0
  rw [hU] at R0
  clear hU'
  obtain ⟨d0, d1, d2, d3, d4, d5, d6, d7, d8⟩ := K0.out.cells
  have e0 := hkf.1
  have e1 := hkf.2.1
  have hZs := hkf.2.2
  go_enter Tryd.func6, Tryd.ntmps6
  go_wp2_with fail
  refine (C1.out _ K0.out.row).mono ?_
  rintro e w1 ⟨rfl, b1⟩
  clear hU
  have K1 := Lib.hid (K0.out.next b1)
  have R1 := Lib.hid (BoxN.below R0.out b1)
  clear d0 d1 d2 d3 d4 d5 d6 d7 d8 K0 R0 b1
  have c0 := R1.out.2 0 _ rfl
  go_wp2_with fail
  refine (CK.out _).mono ?_
  rintro e w2 ⟨rfl, b2⟩
  have K2 := Lib.hid (K1.out.next b2)
  have R2 := Lib.hid (BoxN.below R1.out b2)
  clear c0 K1 R1 b2 hkf
  obtain ⟨d0, d1, d2, d3, d4, d5, d6, d7, d8⟩ := K2.out.cells
  have c1 := R2.out.2 1 _ rfl
  go_wp2_with fail
  refine (C2.out _ K2.out.row (HV.out.below K2.out.bel (Nat.le_refl _))).mono ?_
  rintro e w3 ⟨rfl, b3⟩
  have K3 := Lib.hid (K2.out.next b3)
  have R3 := Lib.hid (BoxN.below R2.out b3)
  clear d0 d1 d2 d3 d4 d5 d6 d7 d8 c1 b3 K2 R2 e0 e1
  obtain ⟨S, HSd⟩ : ∃ S : World → Prop, S = fun U => BkAt w U w.heap.size fa fc la lc ga gc qa qc ta tc b ∧ BoxN U (w.heap.size + 1) [.int .i64 k, .slice xa n xc, .int .i64 f, .int .i64 o] := ⟨_, rfl⟩
  have KS : Hid (∀ wa wb, S wa → Below wa.heap.size wa wb → S wb) := by subst HSd; exact fun wa wb h bb => ⟨h.1.next bb, BoxN.below h.2 bb⟩
  have OS : Hid (∀ wa, S wa → BkAt w wa w.heap.size fa fc la lc ga gc qa qc ta tc b ∧ BoxN wa (w.heap.size + 1) [.int .i64 k, .slice xa n xc, .int .i64 f, .int .i64 o]) := by subst HSd; exact fun wa h => h
  have IS : Hid (S w3) := by subst HSd; exact ⟨K3.out, R3.out⟩
  have ISd : Hid (S w3.drew) := KS.out _ _ IS.out (Below.refl _ _).drew
  clear HSd IS K3 R3
  go_wp2_with fail
  refine wp_region_held_drew (S := S) (by kernel_rfl) ?_ (fun hHeld => ?_)
  · exact ISd.out
  refine wpAnyH_take (i := 0) (v := ?_) rfl (by kernel_rfl) (by kernel_rfl) (by kernel_rfl) (fun _ _ _ h => h) (Or.inl ⟨by rfl, ?_⟩) hHeld ?_
  rotate_left
  · (intro wa hSw; go_simp; try with_reducible rfl)
  simp only [Act.put, List.getElem_toArray, List.getElem_cons_zero, List.setIfInBounds_toArray, List.set_cons_zero, List.set_cons_succ]
  refine wpAnyH_take (i := 1) (v := ?_) rfl (by kernel_rfl) (by kernel_rfl) (by kernel_rfl) (fun _ _ _ h => h) (Or.inl ⟨by rfl, ?_⟩) hHeld ?_
  rotate_left
  · (intro wa hSw; have K := OS.out _ hSw; have q0 := K.2.2 0 _ rfl; go_simp; try with_reducible rfl)
  simp only [Act.put, List.getElem_toArray, List.getElem_cons_zero, List.getElem_cons_succ, List.setIfInBounds_toArray, List.set_cons_zero, List.set_cons_succ]
  refine wpAnyH_take (i := 4) (v := ?_) rfl (by kernel_rfl) (by kernel_rfl) (by kernel_rfl) (fun _ _ _ h => h) (Or.inl ⟨by rfl, ?_⟩) hHeld ?_
  rotate_left
  · (intro wa hSw; go_simp; try with_reducible rfl)
  simp only [Act.put, List.getElem_toArray, List.getElem_cons_zero, List.getElem_cons_succ, List.setIfInBounds_toArray, List.set_cons_zero, List.set_cons_succ]
  refine wpAnyH_take (i := 5) (v := ?_) rfl (by kernel_rfl) (by kernel_rfl) (by kernel_rfl) (fun _ _ _ h => h) (Or.inl ⟨by rfl, ?_⟩) hHeld ?_
  rotate_left
  · (intro wa hSw; have K := OS.out _ hSw; have q2 := K.2.2 2 _ rfl; go_simp; try with_reducible rfl)
  simp only [Act.put, List.getElem_toArray, List.getElem_cons_zero, List.getElem_cons_succ, List.setIfInBounds_toArray, List.set_cons_zero, List.set_cons_succ]
  refine wpAnyH_take (i := 9) (v := ?_) rfl (by kernel_rfl) (by kernel_rfl) (by kernel_rfl) (fun _ _ _ h => h) (Or.inl ⟨by rfl, ?_⟩) hHeld ?_
  rotate_left
  · (intro wa hSw; go_simp; try with_reducible rfl)
  simp only [Act.put, List.getElem_toArray, List.getElem_cons_zero, List.getElem_cons_succ, List.setIfInBounds_toArray, List.set_cons_zero, List.set_cons_succ]
  refine wpAnyH_take (i := 10) (v := ?_) rfl (by kernel_rfl) (by kernel_rfl) (by kernel_rfl) (fun _ _ _ h => h) (Or.inl ⟨by rfl, ?_⟩) hHeld ?_
  rotate_left
  · (intro wa hSw; have K := OS.out _ hSw; have q3 := K.2.2 3 _ rfl; go_simp; try with_reducible rfl)
  simp only [Act.put, List.getElem_toArray, List.getElem_cons_zero, List.getElem_cons_succ, List.setIfInBounds_toArray, List.set_cons_zero, List.set_cons_succ]
  refine wpAnyH_ready (rs := [2]) (by kernel_rfl) (by simp) ?_
  refine AllReadyH.cons (o := _) rfl (fun K hK => ?_) AllReadyH.nil
  go_simp
  have KK := OS.out _ hHeld
  refine (CK.out _).mono ?_
  rintro e w101 ⟨rfl, bb101⟩
  clear KK
  (try go_wp2_with fail)
  refine hK.out _ _ ?_ (fun hHeld101 => ?_)
  · exact KS.out _ _ hHeld bb101
  clear hK K
  refine wpAnyH_take (i := 3) (v := ?_) rfl (by kernel_rfl) (by kernel_rfl) (by kernel_rfl) (fun _ _ _ h => h) (Or.inl ⟨by rfl, ?_⟩) hHeld101 ?_
  rotate_left
  · (intro wa hSw; go_simp; rw [if_neg (by (try simp only [ByteArray.size_append]); omega)]; try with_reducible rfl)
  simp only [Act.put, List.getElem_toArray, List.getElem_cons_zero, List.getElem_cons_succ, List.setIfInBounds_toArray, List.set_cons_zero, List.set_cons_succ]
  refine wpAnyH_ready (rs := [6]) (by kernel_rfl) (by simp) ?_
  refine AllReadyH.cons (o := _) rfl (fun K hK => ?_) AllReadyH.nil
  go_simp
  have KK := OS.out _ hHeld101
  refine (CF.out _).mono ?_
  rintro e w102 ⟨rfl, bb102⟩
  clear KK
  (try go_wp2_with fail)
  refine hK.out _ _ ?_ (fun hHeld102 => ?_)
  · exact KS.out _ _ hHeld101 bb102
  clear hK K
  refine wpAnyH_take (i := 7) (v := ?_) rfl (by kernel_rfl) (by kernel_rfl) (by kernel_rfl) (fun _ _ _ h => h) (Or.inl ⟨by rfl, ?_⟩) hHeld102 ?_
  rotate_left
  · (intro wa hSw; go_simp; rw [if_neg (by (try simp only [ByteArray.size_append]); omega)]; try with_reducible rfl)
  simp only [Act.put, List.getElem_toArray, List.getElem_cons_zero, List.getElem_cons_succ, List.setIfInBounds_toArray, List.set_cons_zero, List.set_cons_succ]
  refine wpAnyH_take (i := 8) (v := ?_) rfl (by kernel_rfl) (by kernel_rfl) (by kernel_rfl) (fun _ _ _ h => h) (Or.inl ⟨by rfl, ?_⟩) hHeld102 ?_
  rotate_left
  · (intro wa hSw; go_simp; rw [if_neg (by (try simp only [ByteArray.size_append]); omega)]; try with_reducible rfl)
  simp only [Act.put, List.getElem_toArray, List.getElem_cons_zero, List.getElem_cons_succ, List.setIfInBounds_toArray, List.set_cons_zero, List.set_cons_succ]
  refine wpAnyH_ready (rs := [11]) (by kernel_rfl) (by simp) ?_
  refine AllReadyH.cons (o := _) rfl (fun K hK => ?_) AllReadyH.nil
  go_simp
  have KK := OS.out _ hHeld102
  refine (CO.out _).mono ?_
  rintro e w103 ⟨rfl, bb103⟩
  clear KK
  (try go_wp2_with fail)
  refine hK.out _ _ ?_ (fun hHeld103 => ?_)
  · exact KS.out _ _ hHeld102 bb103
  clear hK K
  refine wpAnyH_take (i := 12) (v := ?_) rfl (by kernel_rfl) (by kernel_rfl) (by kernel_rfl) (fun _ _ _ h => h) (Or.inl ⟨by rfl, ?_⟩) hHeld103 ?_
  rotate_left
  · (intro wa hSw; go_simp; rw [if_neg (by (try simp only [ByteArray.size_append]); omega)]; try with_reducible rfl)
  simp only [Act.put, List.getElem_toArray, List.getElem_cons_zero, List.getElem_cons_succ, List.setIfInBounds_toArray, List.set_cons_zero, List.set_cons_succ]
  refine wpAnyH_take (i := 13) (v := ?_) rfl (by kernel_rfl) (by kernel_rfl) (by kernel_rfl) (fun _ _ _ h => h) (Or.inl ⟨by rfl, ?_⟩) hHeld103 ?_
  rotate_left
  · (intro wa hSw; go_simp; try with_reducible rfl)
  simp only [Act.put, List.getElem_toArray, List.getElem_cons_zero, List.getElem_cons_succ, List.setIfInBounds_toArray, List.set_cons_zero, List.set_cons_succ]
  refine wpAnyH_done (by kernel_rfl) ?_ _
  have KE := Lib.hid (OS.out _ hHeld103)
  clear KS OS ISd hHeld hHeld101 hHeld102 hHeld103 CK CF CO C1 C2
  have c0 := KE.out.2.2 0 _ rfl
  go_wp2_with fail
  refine (CMU.out _).mono ?_
  rintro e w4 ⟨rfl, hw4⟩
  subst hw4
  cases mu with
  | false =>
    have HR2 : Hid (RT = Z ++ ⟨#[32]⟩ ++ Fs ++ ⟨#[58]⟩ ++ Os) := HR.out
    have HE := Lib.hid KE.out.1.bel
    clear HR
    go_wp2
    go_ret
    exact ⟨by rw [HR2.out]; rfl, HE.out⟩
  | true =>
    have HR2 : Hid (RT = Z ++ ⟨#[32]⟩ ++ Fs ++ ⟨#[58]⟩ ++ Os ++ ⟨#[32]⟩ ++ jn ⟨#[43]⟩ (nmG b g) n) := HR.out
    clear HR
    have hS0 : (Z ++ ⟨#[32]⟩ ++ Fs ++ ⟨#[58]⟩ ++ Os).size ≤ 200 := by
      simp only [ByteArray.size_append]
      have h1 : (⟨#[32]⟩ : ByteArray).size = 1 := rfl
      have h2 : (⟨#[58]⟩ : ByteArray).size = 1 := rfl
      omega
    generalize Z ++ ⟨#[32]⟩ ++ Fs ++ ⟨#[58]⟩ ++ Os = S0 at *
    have c1 := KE.out.2.2 1 _ rfl
    have K4 := Lib.hid (KE.out.1.alloc (.cells #[] 9))
    have o0 := World.ownsRow_lit (e := 9) (size := 1) w103 #[] 0 (Nat.le_refl _) (by decide) rfl
    have HO0 := Lib.hid o0
    have HB0 := Lib.hid ((Below.refl w103.heap.size w103).alloc (Nat.le_refl _) (.cells #[] 9))
    have c1' := (HB0.out.cell (p := ⟨w.heap.size + 1, 1, none⟩) KE.out.2.1).trans c1
    clear o0 c0 c1
    go_wp2
    clear c1'
    go_loopw [6, 47] (fun ov iv wr => ∃ i : Nat, i ≤ n ∧ iv = .int .i64 i ∧ Hid (wr.ownsRow w103.heap.size 9 1 ov i ((List.range i).map fun j => Value.string (nmG b g j))) ∧ Hid (Below w103.heap.size w103 wr)) (fun _ iv _ => n - (RowKit.intOf iv).toNat)
    case atStart => exact ⟨0, Nat.zero_le _, rfl, HO0, HB0⟩
    case round =>
      clear HO0 HB0 K4
      obtain ⟨i, hi9, rfl, HO, HB⟩ := hrel
      have Kr := Lib.hid (KE.out.1.next HB.out)
      by_cases hlt : i < n
      · obtain ⟨xb, xo, rfl, hxc, q0⟩ := int_at (HV.out.below Kr.out.bel (Nat.le_refl _)) hlt
        obtain ⟨u, hu⟩ : ∃ u : Nat, g i = (u : Int) := ⟨(g i).toNat, by have := HTM.out i hlt; omega⟩
        have hul : u < b.nf := by have := HTM.out i hlt; omega
        obtain ⟨fb, fo, rfl, hfc, q1⟩ := team_name Kr.out.row.1 hul
        have e2 : (b.f u).nm = nmG b g i := by unfold nmG; rw [hu]; rfl
        rw [hu] at q0
        rw [e2] at q1
        have hns := HNM.out i hlt
        have HSN : Hid ((List.range (i + 1)).map (fun j => Value.string (nmG b g j)) = (List.range i).map (fun j => Value.string (nmG b g j)) ++ [.string (nmG b g i)]) := by show _ = _; rw [List.range_succ, List.map_append]; rfl
        obtain ⟨d0, d1, d2, d3, d4, d5, d6, d7, d8⟩ := Kr.out.cells
        have hown := HO.out
        have hsz := HB.out.size
        have hii : (i : Int) < (n : Int) := by omega
        have hui : (u : Int) < (b.nf : Int) := by omega
        generalize nmG b g i = nm at *
        clear hu e2
        go_wp2_with (at_builtin; refine wpList_pushL rfl (.tmp 51) (.tmp 58) 53 rfl w103.heap.size 9 Tryd.underlying53 hi hz0 hz1 hz2 rfl (by decide) [.string nm] rfl (by intro u hu; simp at hu; subst hu; rfl) rfl (by show Value.slice (some ⟨_, 0, none⟩) 1 1 = _; simp) hown (by unfold maxLen; omega) (by omega) hsz ?_; intro gg5 cc5 w5 o5 g5 at5 lt5)
        have hHB := Lib.hid (HB.out.grown g5 hsz (fun q hq => (hown.lt q hq).1))
        have hO5 : Hid (w5.ownsRow w103.heap.size 9 1 (.slice (some ⟨gg5, 0, none⟩) (i + 1) cc5) (i + 1) ((List.range (i + 1)).map fun j => Value.string (nmG b g j))) := by show World.ownsRow _ _ _ _ _ _ _; rw [HSN.out]; exact o5
        clear o5 g5 at5 hown HO HB d0 d1 d2 d3 d4 d5 d6 d7 d8 q0 q1 Kr
        go_roundw
        case rel => exact ⟨i + 1, by omega, by go_num, hO5, hHB⟩
        case measure => simp [RowKit.intOf]; omega
      · obtain rfl : n = i := by omega
        obtain ⟨ya, yc, hof⟩ := owns_form HO.out
        subst hof
        have hst : StrRow wr (.slice ya n yc) n (nmG b g) := StrRow.of_owns HO.out (by omega) (fun j hj => by simp [hj])
        have htt := tot_le n HNM.out
        have CJ := Lib.hid (join_specL (.slice ya n yc) n (nmG b g) ⟨#[43]⟩ wr hst hn6 (by omega) (by decide))
        have hjs := jn_size ⟨#[43]⟩ (nmG b g) n
        have hj1 : (⟨#[43]⟩ : ByteArray).size = 1 := rfl
        have hjs2 : (jn ⟨#[43]⟩ (nmG b g) n).size ≤ 100000000 := by rw [hj1] at hjs; omega
        have HE := Lib.hid (Kr.out.bel)
        generalize jn ⟨#[43]⟩ (nmG b g) n = J at *
        clear hst htt hjs hj1 HO HB Kr
        go_wp2_with fail
        refine CJ.out.mono ?_
        rintro e w9 ⟨rfl, hw9⟩
        subst hw9
        go_wp2
        go_ret
        exact ⟨by rw [HR2.out]; rfl, HE.out⟩

theorem grown_belowT {w w' : World} (h : w.grownBy w' none) : Below w.heap.size w w' := (Below.refl _ _).grown h (Nat.le_refl _) (fun k hk => by cases hk)
set_option maxRecDepth 100000 in
set_option maxHeartbeats 2000000 in
theorem namesOf_impl (vf vl vg vfa vta : Value) (b : BookD) (v : Value) (n : Nat) (g : Nat → Int) (w : World) (ht : teamsP b.nf n g) (h : BookRow w vf vl vg vfa vta b) (hv : IntRow w v n g) (hn6 : n ≤ 1048576) :
    Calls Tryd.prog 32 #[.agg #[vf, .int .i64 b.win, .int .i64 b.draw, .int .i64 b.loss, vl, .bool b.again, vg, vfa, vta], v] w fun e w' => ∃ vv, e = .returned vv ∧ w'.ownsRow w.heap.size 9 1 vv n ((List.range n).map fun j => Value.string (nmG b g j)) ∧ Below w.heap.size w w' := by
  obtain ⟨i0, hi, hz0, hz1, hz2⟩ := info_parts Tryd.infoS
  obtain ⟨fa, fc, la, lc, ga, gc, qa, qc, ta, tc, rfl, rfl, rfl, rfl, rfl⟩ := h.form
  obtain ⟨xa, xc, rfl, hx64, _⟩ := hv.form
  have K0 := Lib.hid (BkAt.made h 38)
  have hsix := h.sixty
  have HV := Lib.hid hv
  have HTM := Lib.hid ht
  clear h hv ht
  obtain ⟨d0, d1, d2, d3, d4, d5, d6, d7, d8⟩ := K0.out.cells
  go_enter Tryd.func32, Tryd.ntmps32
  go_wp2_with (at_make; refine wpList_make_full _ rfl _ _ 53 rfl (w.heap.size + 1) 9 i0 (.string ByteArray.empty) 1 Tryd.underlying53 hi hz0 hz1 .i64 .i64 n n n rfl rfl rfl rfl (by rw [hz2]; omega) (by unfold maxLen; omega) (by simp) ?_; intro w2 hown hg2)
  have b2 := Lib.hid (grown_belowT hg2)
  have K2 := Lib.hid (K0.out.next b2.out)
  have hes : (w.alloc (.cells #[.slice fa b.nf fc, .int .i64 b.win, .int .i64 b.draw, .int .i64 b.loss, .slice la b.nl lc, .bool b.again, .slice ga b.m gc, .slice qa b.nfa qc, .slice ta b.nta tc] 38)).heap.size = w.heap.size + 1 := by simp
  rw [hes] at hown
  have HO2 := Lib.hid hown
  clear hes
  clear hg2 hown K0 d0 d1 d2 d3 d4 d5 d6 d7 d8 b2
  go_loopw [13] (fun iv wr => ∃ (j : Nat) (ys : List Value), j ≤ n ∧ iv = .int .i64 j ∧ wr.ownsRow (w.heap.size + 1) 9 1 (.slice (some ⟨w.heap.size + 1, 0, none⟩) n n) n ys ∧ Hid (∀ t, t < j → ys[t]? = some (.string (nmG b g t))) ∧ Hid (BkAt w wr w.heap.size fa fc la lc ga gc qa qc ta tc b))
    (fun iv _ => n - (RowKit.intOf iv).toNat)
  case atStart => exact ⟨0, _, Nat.zero_le _, rfl, HO2.out, fun t ht => absurd ht (by omega), K2⟩
  case round =>
    obtain ⟨j, ys, hj, rfl, hown', hys, K⟩ := hrel
    clear HO2 K2
    by_cases hlt : j < n
    · obtain ⟨xb, xo, rfl, hxc, q0⟩ := int_at (HV.out.below K.out.bel (Nat.le_refl _)) hlt
      obtain ⟨u, hu⟩ : ∃ u : Nat, g j = (u : Int) := ⟨(g j).toNat, by have := HTM.out j hlt; omega⟩
      have hul : u < b.nf := by have := HTM.out j hlt; omega
      obtain ⟨fb, fo, rfl, hfc, q1⟩ := team_name K.out.row.1 hul
      have e2 : (b.f u).nm = nmG b g j := by unfold nmG; rw [hu]; rfl
      rw [hu] at q0
      rw [e2] at q1
      obtain ⟨d0, d1, d2, d3, d4, d5, d6, d7, d8⟩ := K.out.cells
      obtain ⟨uu, huu⟩ := owns_some hown' j hlt
      have HU := Lib.hid huu
      have hcl := owns_cell hown' j hlt HU
      have hfr := hown'.frozenAt j
      have HO' := Lib.hid hown'
      have hji : (j : Int) < (n : Int) := by omega
      have hui : (u : Int) < (b.nf : Int) := by omega
      obtain ⟨nm, hnm⟩ : ∃ nm, nmG b g j = nm := ⟨_, rfl⟩
      rw [hnm] at q1
      have HNM := Lib.hid hnm
      clear huu hown' hu e2 hnm
      go_wp2
      go_roundw
      case rel =>
        refine ⟨j + 1, ys.set j (.string nm), by omega, by go_num, (HO'.out.stored j _).1, fun t ht => ?_, K.out.store (by simp) (by simp) _⟩
        have hlen := HO'.out.1
        by_cases htj : t = j
        · subst htj
          rw [List.getElem?_set_self (by omega), HNM.out]
        · rw [List.getElem?_set_ne (by omega)]
          exact hys.out t (by omega)
      case measure => simp [RowKit.intOf]; omega
    · obtain rfl : n = j := by omega
      have hys2 : ys = (List.range n).map fun j => Value.string (nmG b g j) := by
        have hlen := hown'.1
        apply List.ext_getElem?
        intro t
        by_cases ht : t < n
        · rw [hys.out t ht]; simp [ht]
        · rw [List.getElem?_eq_none (by omega), List.getElem?_eq_none (by simp; omega)]
      subst hys2
      have HR := Lib.hid (owns_mono (base' := w.heap.size) hown' (by omega))
      have HE := Lib.hid K.out.bel
      clear hown' hys
      go_wp2
      go_ret
      exact ⟨_, rfl, HR.out, HE.out⟩

set_option maxRecDepth 100000 in
set_option maxHeartbeats 4000000 in
theorem reasonText_impl_yes (vf vl vg vfa vta : Value) (b : BookD) (k f o : Int) (v : Value) (n : Nat) (g : Nat → Int) (w : World) (hp : textP b k n g) (h : BookRow w vf vl vg vfa vta b) (hs : ∀ i, (b.f i).nm.size ≤ maxLen) (hv : IntRow w v n g) (hn6 : n ≤ 1048576) (hf : isInt f) (ho : isInt o) (htab : PowTab w) :
    Calls Tryd.prog 9 #[.agg #[vf, .int .i64 b.win, .int .i64 b.draw, .int .i64 b.loss, vl, .bool b.again, vg, vfa, vta], .agg #[.int .i64 k, v, .int .i64 f, .int .i64 o]] w fun e w' => e = .returned (.string (rsnT b k f o n g)) ∧ Below w.heap.size w w' := by
  obtain ⟨i0, hi, hz0, hz1, hz2⟩ := info_parts Tryd.infoS
  obtain ⟨fa, fc, la, lc, ga, gc, qa, qc, ta, tc, rfl, rfl, rfl, rfl, rfl⟩ := h.form
  obtain ⟨xa, xc, rfl, hx64, _⟩ := hv.form
  have C1 := Lib.hid (fun wa h1 => bookOk_impl (.slice fa b.nf fc) (.slice la b.nl lc) (.slice ga b.m gc) (.slice qa b.nfa qc) (.slice ta b.nta tc) b true wa ⟨fun _ => hp.1, fun _ => rfl⟩ h1 hs)
  have CK : Hid (∀ wa, Calls Tryd.prog 27 #[.int .i64 k] wa fun e w' => e = .returned (.string (knmI k)) ∧ Below wa.heap.size wa w') := fun wa => (keyName_impl k wa).mono fun e w' h => ⟨h.1, h.2 ▸ Below.refl _ _⟩
  have C2 := Lib.hid (fun wa h1 h2 => areTeams_impl (.slice fa b.nf fc) (.slice la b.nl lc) (.slice ga b.m gc) (.slice qa b.nfa qc) (.slice ta b.nta tc) b (.slice xa n xc) n g true wa ⟨fun _ => hp.2.2, fun _ => rfl⟩ h1 h2)
  have CMU : Hid (∀ wa, Calls Tryd.prog 30 #[.int .i64 k] wa fun e w' => e = .returned (.bool (mutualB k)) ∧ wa = w') := fun wa => (isMutual_impl k wa).mono fun e w' h => ⟨h.1, h.2⟩
  have CF : Hid (∀ wa, Below w.heap.size w wa → Calls Tryd.prog 29 #[.int .i64 f] wa fun e w' => e = .returned (.string (itoaB f)) ∧ Below wa.heap.size wa w') := fun wa hb => formatInt_impl f wa hf (VarAt.below htab hb (Nat.le_refl _))
  have CO : Hid (∀ wa, Below w.heap.size w wa → Calls Tryd.prog 29 #[.int .i64 o] wa fun e w' => e = .returned (.string (itoaB o)) ∧ Below wa.heap.size wa w') := fun wa hb => formatInt_impl o wa ho (VarAt.below htab hb (Nat.le_refl _))
  have CNM : Hid (∀ wa, BookRow wa (.slice fa b.nf fc) (.slice la b.nl lc) (.slice ga b.m gc) (.slice qa b.nfa qc) (.slice ta b.nta tc) b → IntRow wa (.slice xa n xc) n g → Calls Tryd.prog 32 #[.agg #[.slice fa b.nf fc, .int .i64 b.win, .int .i64 b.draw, .int .i64 b.loss, .slice la b.nl lc, .bool b.again, .slice ga b.m gc, .slice qa b.nfa qc, .slice ta b.nta tc], .slice xa n xc] wa fun e w' => ∃ vv, e = .returned vv ∧ w'.ownsRow wa.heap.size 9 1 vv n ((List.range n).map fun j => Value.string (nmG b g j)) ∧ Below wa.heap.size wa w') := fun wa h1 h2 => namesOf_impl _ _ _ _ _ b _ n g wa hp.2.2 h1 h2 hn6
  clear htab
  have hsix := h.sixty
  have K0 := Lib.hid ((BkAt.made h 38).alloc (.cells #[.int .i64 k, .slice xa n xc, .int .i64 f, .int .i64 o] 40))
  have R0 := Lib.hid (BoxN.made (u := w.alloc (.cells #[.slice fa b.nf fc, .int .i64 b.win, .int .i64 b.draw, .int .i64 b.loss, .slice la b.nl lc, .bool b.again, .slice ga b.m gc, .slice qa b.nfa qc, .slice ta b.nta tc] 38)) (cs := #[.int .i64 k, .slice xa n xc, .int .i64 f, .int .i64 o]) (t := 40) (B := w.heap.size + 1) (Below.refl _ _) (by simp))
  have HV := Lib.hid hv
  have HTM := Lib.hid hp.2.2
  have HNM := Lib.hid (nm_size hp.1 hp.2.2)
  have hkf := knm_facts hp.2.1
  have hFs := itoaB_size hf
  have hOs := itoaB_size ho
  have HR : Hid (rsnT b k f o n g = if mutualB k = true then knmI k ++ ⟨#[32]⟩ ++ itoaB f ++ ⟨#[58]⟩ ++ itoaB o ++ ⟨#[32]⟩ ++ jn ⟨#[43]⟩ (nmG b g) n else knmI k ++ ⟨#[32]⟩ ++ itoaB f ++ ⟨#[58]⟩ ++ itoaB o) := rfl
  generalize rsnT b k f o n g = RT at *
  generalize knmI k = Z at *
  generalize itoaB f = Fs at *
  generalize itoaB o = Os at *
  generalize mutualB k = mu at *
  clear h hs hv hp
  obtain ⟨U, hU⟩ : ∃ U, (w.alloc (.cells #[.slice fa b.nf fc, .int .i64 b.win, .int .i64 b.draw, .int .i64 b.loss, .slice la b.nl lc, .bool b.again, .slice ga b.m gc, .slice qa b.nfa qc, .slice ta b.nta tc] 38)).alloc (.cells #[.int .i64 k, .slice xa n xc, .int .i64 f, .int .i64 o] 40) = U := ⟨_, rfl⟩
  have hU' : (w.alloc (.cells (bkList fa fc la lc ga gc qa qc ta tc b).toArray 38)).alloc (.cells #[.int .i64 k, .slice xa n xc, .int .i64 f, .int .i64 o] 40) = U := hU
  rw [hU'] at K0
  rw [hU] at R0
  clear hU'
  obtain ⟨d0, d1, d2, d3, d4, d5, d6, d7, d8⟩ := K0.out.cells
  have e0 := hkf.1
  have e1 := hkf.2.1
  have hZs := hkf.2.2
  go_enter Tryd.func9, Tryd.ntmps9
  go_wp2_with fail
  refine (C1.out _ K0.out.row).mono ?_
  rintro e w1 ⟨rfl, b1⟩
  clear hU
  have K1 := Lib.hid (K0.out.next b1)
  have R1 := Lib.hid (BoxN.below R0.out b1)
  clear d0 d1 d2 d3 d4 d5 d6 d7 d8 K0 R0 b1
  have c0 := R1.out.2 0 _ rfl
  go_wp2_with fail
  refine (CK.out _).mono ?_
  rintro e w2 ⟨rfl, b2⟩
  have K2 := Lib.hid (K1.out.next b2)
  have R2 := Lib.hid (BoxN.below R1.out b2)
  clear c0 K1 R1 b2 hkf
  obtain ⟨d0, d1, d2, d3, d4, d5, d6, d7, d8⟩ := K2.out.cells
  have c1 := R2.out.2 1 _ rfl
  go_wp2_with fail
  refine (C2.out _ K2.out.row (HV.out.below K2.out.bel (Nat.le_refl _))).mono ?_
  rintro e w3 ⟨rfl, b3⟩
  have K3 := Lib.hid (K2.out.next b3)
  have R3 := Lib.hid (BoxN.below R2.out b3)
  clear d0 d1 d2 d3 d4 d5 d6 d7 d8 c1 b3 K2 R2 e0 e1
  obtain ⟨S, HSd⟩ : ∃ S : World → Prop, S = fun U => BkAt w U w.heap.size fa fc la lc ga gc qa qc ta tc b ∧ BoxN U (w.heap.size + 1) [.int .i64 k, .slice xa n xc, .int .i64 f, .int .i64 o] := ⟨_, rfl⟩
  have KS : Hid (∀ wa wb, S wa → Below wa.heap.size wa wb → S wb) := by subst HSd; exact fun wa wb h bb => ⟨h.1.next bb, BoxN.below h.2 bb⟩
  have OS : Hid (∀ wa, S wa → BkAt w wa w.heap.size fa fc la lc ga gc qa qc ta tc b ∧ BoxN wa (w.heap.size + 1) [.int .i64 k, .slice xa n xc, .int .i64 f, .int .i64 o]) := by subst HSd; exact fun wa h => h
  have IS : Hid (S w3) := by subst HSd; exact ⟨K3.out, R3.out⟩
  have ISd : Hid (S w3.drew) := KS.out _ _ IS.out (Below.refl _ _).drew
  clear HSd IS K3 R3
  go_wp2_with fail
  refine wp_region_held_drew (S := S) (by kernel_rfl) ?_ (fun hHeld => ?_)
  · exact ISd.out
  refine wpAnyH_take (i := 0) (v := ?_) rfl (by kernel_rfl) (by kernel_rfl) (by kernel_rfl) (fun _ _ _ h => h) (Or.inl ⟨by rfl, ?_⟩) hHeld ?_
  rotate_left
  · (intro wa hSw; go_simp; try with_reducible rfl)
  simp only [Act.put, List.getElem_toArray, List.getElem_cons_zero, List.setIfInBounds_toArray, List.set_cons_zero, List.set_cons_succ]
  refine wpAnyH_take (i := 1) (v := ?_) rfl (by kernel_rfl) (by kernel_rfl) (by kernel_rfl) (fun _ _ _ h => h) (Or.inl ⟨by rfl, ?_⟩) hHeld ?_
  rotate_left
  · (intro wa hSw; have K := OS.out _ hSw; have q0 := K.2.2 0 _ rfl; go_simp; try with_reducible rfl)
  simp only [Act.put, List.getElem_toArray, List.getElem_cons_zero, List.getElem_cons_succ, List.setIfInBounds_toArray, List.set_cons_zero, List.set_cons_succ]
  refine wpAnyH_take (i := 3) (v := ?_) rfl (by kernel_rfl) (by kernel_rfl) (by kernel_rfl) (fun _ _ _ h => h) (Or.inl ⟨by rfl, ?_⟩) hHeld ?_
  rotate_left
  · (intro wa hSw; go_simp; try with_reducible rfl)
  simp only [Act.put, List.getElem_toArray, List.getElem_cons_zero, List.getElem_cons_succ, List.setIfInBounds_toArray, List.set_cons_zero, List.set_cons_succ]
  refine wpAnyH_take (i := 4) (v := ?_) rfl (by kernel_rfl) (by kernel_rfl) (by kernel_rfl) (fun _ _ _ h => h) (Or.inl ⟨by rfl, ?_⟩) hHeld ?_
  rotate_left
  · (intro wa hSw; have K := OS.out _ hSw; have q2 := K.2.2 2 _ rfl; go_simp; try with_reducible rfl)
  simp only [Act.put, List.getElem_toArray, List.getElem_cons_zero, List.getElem_cons_succ, List.setIfInBounds_toArray, List.set_cons_zero, List.set_cons_succ]
  refine wpAnyH_take (i := 7) (v := ?_) rfl (by kernel_rfl) (by kernel_rfl) (by kernel_rfl) (fun _ _ _ h => h) (Or.inl ⟨by rfl, ?_⟩) hHeld ?_
  rotate_left
  · (intro wa hSw; go_simp; try with_reducible rfl)
  simp only [Act.put, List.getElem_toArray, List.getElem_cons_zero, List.getElem_cons_succ, List.setIfInBounds_toArray, List.set_cons_zero, List.set_cons_succ]
  refine wpAnyH_take (i := 8) (v := ?_) rfl (by kernel_rfl) (by kernel_rfl) (by kernel_rfl) (fun _ _ _ h => h) (Or.inl ⟨by rfl, ?_⟩) hHeld ?_
  rotate_left
  · (intro wa hSw; have K := OS.out _ hSw; have q3 := K.2.2 3 _ rfl; go_simp; try with_reducible rfl)
  simp only [Act.put, List.getElem_toArray, List.getElem_cons_zero, List.getElem_cons_succ, List.setIfInBounds_toArray, List.set_cons_zero, List.set_cons_succ]
  refine wpAnyH_ready (rs := [2]) (by kernel_rfl) (by simp) ?_
  refine AllReadyH.cons (o := _) rfl (fun K hK => ?_) AllReadyH.nil
  go_simp
  have KK := OS.out _ hHeld
  refine (CK.out _).mono ?_
  rintro e w101 ⟨rfl, bb101⟩
  clear KK
  (try go_wp2_with fail)
  refine hK.out _ _ ?_ (fun hHeld101 => ?_)
  · exact KS.out _ _ hHeld bb101
  clear hK K
  refine wpAnyH_ready (rs := [5]) (by kernel_rfl) (by simp) ?_
  refine AllReadyH.cons (o := _) rfl (fun K hK => ?_) AllReadyH.nil
  go_simp
  have KK := OS.out _ hHeld101
  refine (CF.out _ KK.1.bel).mono ?_
  rintro e w102 ⟨rfl, bb102⟩
  clear KK
  (try go_wp2_with fail)
  refine hK.out _ _ ?_ (fun hHeld102 => ?_)
  · exact KS.out _ _ hHeld101 bb102
  clear hK K
  refine wpAnyH_take (i := 6) (v := ?_) rfl (by kernel_rfl) (by kernel_rfl) (by kernel_rfl) (fun _ _ _ h => h) (Or.inl ⟨by rfl, ?_⟩) hHeld102 ?_
  rotate_left
  · (intro wa hSw; go_simp; rw [if_neg (by (try simp only [ByteArray.size_append]); omega)]; try with_reducible rfl)
  simp only [Act.put, List.getElem_toArray, List.getElem_cons_zero, List.getElem_cons_succ, List.setIfInBounds_toArray, List.set_cons_zero, List.set_cons_succ]
  refine wpAnyH_ready (rs := [9]) (by kernel_rfl) (by simp) ?_
  refine AllReadyH.cons (o := _) rfl (fun K hK => ?_) AllReadyH.nil
  go_simp
  have KK := OS.out _ hHeld102
  refine (CO.out _ KK.1.bel).mono ?_
  rintro e w103 ⟨rfl, bb103⟩
  clear KK
  (try go_wp2_with fail)
  refine hK.out _ _ ?_ (fun hHeld103 => ?_)
  · exact KS.out _ _ hHeld102 bb103
  clear hK K
  refine wpAnyH_take (i := 10) (v := ?_) rfl (by kernel_rfl) (by kernel_rfl) (by kernel_rfl) (fun _ _ _ h => h) (Or.inl ⟨by rfl, ?_⟩) hHeld103 ?_
  rotate_left
  · (intro wa hSw; go_simp; rw [if_neg (by (try simp only [ByteArray.size_append]); omega)]; try with_reducible rfl)
  simp only [Act.put, List.getElem_toArray, List.getElem_cons_zero, List.getElem_cons_succ, List.setIfInBounds_toArray, List.set_cons_zero, List.set_cons_succ]
  refine wpAnyH_ready (rs := [11]) (by kernel_rfl) (by simp) ?_
  refine AllReadyH.cons (o := _) rfl (fun K hK => ?_) AllReadyH.nil
  go_simp
  refine hK.out _ _ ?_ (fun hHeld104 => ?_)
  · exact KS.out _ _ hHeld103 ((Below.refl _ _).alloc (Nat.le_refl _) _)
  clear hK K
  refine wpAnyH_take (i := 12) (v := ?_) rfl (by kernel_rfl) (by kernel_rfl) (by kernel_rfl) (fun _ _ _ h => h) (Or.inl ⟨by rfl, ?_⟩) hHeld104 ?_
  rotate_left
  · (intro wa hSw; go_simp; try with_reducible rfl)
  simp only [Act.put, List.getElem_toArray, List.getElem_cons_zero, List.getElem_cons_succ, List.setIfInBounds_toArray, List.set_cons_zero, List.set_cons_succ]
  refine wpAnyH_done (by kernel_rfl) ?_ _
  have KE := Lib.hid (OS.out _ hHeld104)
  have HBS : Hid (w.heap.size ≤ w103.heap.size) := (OS.out _ hHeld103).1.bel.size
  clear KS OS ISd hHeld hHeld101 hHeld102 hHeld103 hHeld104 CK CF CO C1 C2
  have hFO : (Fs ++ ⟨#[58]⟩ ++ Os).size ≤ 100 := by
    simp only [ByteArray.size_append]
    have h2 : (⟨#[58]⟩ : ByteArray).size = 1 := rfl
    omega
  have HFO : Hid (Z ++ ⟨#[32]⟩ ++ (Fs ++ ⟨#[58]⟩ ++ Os) = Z ++ ⟨#[32]⟩ ++ Fs ++ ⟨#[58]⟩ ++ Os) := by show _ = _; simp only [ByteArray.append_assoc]
  have OW := Lib.hid (World.ownsRow_lit (e := 9) (size := 1) w103 #[.string Z, .string (Fs ++ ⟨#[58]⟩ ++ Os)] 2 (Nat.le_refl _) (by decide) rfl)
  obtain ⟨U2, hU2⟩ : ∃ U2, w103.alloc (.cells #[.string Z, .string (Fs ++ ⟨#[58]⟩ ++ Os)] 9) = U2 := ⟨_, rfl⟩
  have HSU : Hid (U2.heap.size = w103.heap.size + 1) := by show _ = _; rw [← hU2]; simp
  rw [hU2] at KE OW ⊢
  clear hU2
  generalize Fs ++ ⟨#[58]⟩ ++ Os = FO at *
  have c0 := KE.out.2.2 0 _ rfl
  go_wp2_with fail
  refine (CMU.out _).mono ?_
  rintro e w4 ⟨rfl, hw4⟩
  subst hw4
  cases mu with
  | false =>
    have HR2 : Hid (RT = Z ++ ⟨#[32]⟩ ++ Fs ++ ⟨#[58]⟩ ++ Os) := HR.out
    have hst : StrRow U2 (.slice (some ⟨w103.heap.size, 0, none⟩) 2 2) 2 (fun i => if i = 0 then Z else FO) := StrRow.of_owns OW.out (by omega) (fun j hj => by
      have : j = 0 ∨ j = 1 := by omega
      rcases this with rfl | rfl <;> rfl)
    have CJ := Lib.hid (join_implL _ 2 _ ⟨#[32]⟩ U2 hst (by omega) (by simp [tot]; omega) (by decide))
    have e3 : jn ⟨#[32]⟩ (fun i => if i = 0 then Z else FO) 2 = Z ++ ⟨#[32]⟩ ++ FO := by simp [jn]
    rw [e3] at CJ
    have HE := Lib.hid KE.out.1.bel
    clear HR hst e3 c0
    go_wp2_with fail
    refine CJ.out.mono ?_
    rintro e w5 ⟨rfl, b5⟩
    have HE5 := Lib.hid (HE.out.trans (b5.mono HE.out.size))
    clear b5
    go_wp2
    go_ret
    exact ⟨by rw [HR2.out, ← HFO.out]; rfl, HE5.out⟩
  | true =>
    have HR2 : Hid (RT = Z ++ ⟨#[32]⟩ ++ Fs ++ ⟨#[58]⟩ ++ Os ++ ⟨#[32]⟩ ++ jn ⟨#[43]⟩ (nmG b g) n) := HR.out
    have c1 := KE.out.2.2 1 _ rfl
    obtain ⟨d0, d1, d2, d3, d4, d5, d6, d7, d8⟩ := KE.out.1.cells
    clear HR c0
    go_wp2_with fail
    refine (CNM.out _ KE.out.1.row (HV.out.below KE.out.1.bel (Nat.le_refl _))).mono ?_
    rintro e w5 ⟨nv, rfl, hno, b5⟩
    obtain ⟨ya, yc, hnf⟩ := owns_form hno
    subst hnf
    have hst : StrRow w5 (.slice ya n yc) n (nmG b g) := StrRow.of_owns hno (by omega) (fun j hj => by simp [hj])
    have htt := tot_le n HNM.out
    have CJ := Lib.hid (join_implL (.slice ya n yc) n (nmG b g) ⟨#[43]⟩ w5 hst hn6 (by omega) (by decide))
    have hjs := jn_size ⟨#[43]⟩ (nmG b g) n
    have hj1 : (⟨#[43]⟩ : ByteArray).size = 1 := rfl
    have hjs2 : (jn ⟨#[43]⟩ (nmG b g) n).size ≤ 100000000 := by rw [hj1] at hjs; omega
    have HE5 := Lib.hid (KE.out.1.bel.trans (b5.mono KE.out.1.bel.size))
    have OW5 := Lib.hid (owns_below OW.out b5 (Nat.le_refl _))
    have HS5 := Lib.hid b5.size
    generalize jn ⟨#[43]⟩ (nmG b g) n = J at *
    clear hst htt hjs hj1 hno d0 d1 d2 d3 d4 d5 d6 d7 d8 c1 CNM b5 OW KE
    go_wp2_with fail
    refine CJ.out.mono ?_
    rintro e w6 ⟨rfl, b6⟩
    have HE6 := Lib.hid (HE5.out.trans (b6.mono HE5.out.size))
    have OW6 := OW5.out
    have hown := owns_below OW6 b6 (Nat.le_refl _)
    have hsz : w103.heap.size ≤ w6.heap.size := by have := HSU.out; have := HS5.out; have := b6.size; omega
    have HB6 : Hid (w.heap.size ≤ w6.heap.size) := HE6.out.size
    clear OW6 b6 CJ
    go_wp2_with (at_builtin; refine wpList_pushL rfl (.tmp 37) (.tmp 43) 53 rfl w103.heap.size 9 Tryd.underlying53 hi hz0 hz1 hz2 rfl (by decide) [.string J] rfl (by intro u hu; simp at hu; subst hu; rfl) rfl (by show Value.slice (some ⟨_, 0, none⟩) 1 1 = _; simp) hown (by unfold maxLen; omega) (by omega) hsz ?_; intro gg7 cc7 w7 o7 g7 at7 lt7)
    have hst7 : StrRow w7 (.slice (some ⟨gg7, 0, none⟩) 3 cc7) 3 (fun i => if i = 0 then Z else if i = 1 then FO else J) := StrRow.of_owns o7 (by omega) (fun j hj => by
      have : j = 0 ∨ j = 1 ∨ j = 2 := by omega
      rcases this with rfl | rfl | rfl <;> rfl)
    have CJ7 := Lib.hid (join_implL _ 3 _ ⟨#[32]⟩ w7 hst7 (by omega) (by simp [tot]; omega) (by decide))
    have e3 : jn ⟨#[32]⟩ (fun i => if i = 0 then Z else if i = 1 then FO else J) 3 = Z ++ ⟨#[32]⟩ ++ FO ++ ⟨#[32]⟩ ++ J := by simp [jn]
    rw [e3] at CJ7
    have HE7 := Lib.hid (HE6.out.grown g7 HE6.out.size (fun q hq => by have := (hown.lt q hq).1; have := HBS.out; omega))
    clear hst7 e3 o7 g7 at7 hown
    go_wp2_with fail
    refine CJ7.out.mono ?_
    rintro e w8 ⟨rfl, b8⟩
    have HE8 := Lib.hid (HE7.out.trans (b8.mono HE7.out.size))
    clear b8
    go_wp2
    go_ret
    exact ⟨by rw [HR2.out, ← HFO.out]; rfl, HE8.out⟩

theorem reasonText_spec (vf vl vg vfa vta : Value) (b : BookD) (k f o : Int) (v : Value) (n : Nat) (g : Nat → Int) (R : Bool) (w : World) (hR : R = true ↔ textP b k n g) (h : BookRow w vf vl vg vfa vta b) (hs : ∀ i, (b.f i).nm.size ≤ maxLen) (hv : IntRow w v n g) (hn6 : n ≤ 1048576) (hf : isInt f) (ho : isInt o) :
    Calls Tryd.prog 6 #[.agg #[vf, .int .i64 b.win, .int .i64 b.draw, .int .i64 b.loss, vl, .bool b.again, vg, vfa, vta], .agg #[.int .i64 k, v, .int .i64 f, .int .i64 o]] w fun e w' => e = .returned (.string (if R = true then rsnT b k f o n g else ⟨#[]⟩)) ∧ Below w.heap.size w w' := by
  cases R with
  | true => rw [if_pos rfl]; exact reasonText_spec_yes vf vl vg vfa vta b k f o v n g w (hR.1 rfl) h hs hv hn6 hf ho
  | false => rw [if_neg (by decide)]; exact reasonText_spec_no vf vl vg vfa vta b k f o v n g w (fun e => by have := hR.2 e; cases this) h hs hv hn6 hf ho
theorem reasonText_impl (vf vl vg vfa vta : Value) (b : BookD) (k f o : Int) (v : Value) (n : Nat) (g : Nat → Int) (R : Bool) (w : World) (hR : R = true ↔ textP b k n g) (h : BookRow w vf vl vg vfa vta b) (hs : ∀ i, (b.f i).nm.size ≤ maxLen) (hv : IntRow w v n g) (hn6 : n ≤ 1048576) (hf : isInt f) (ho : isInt o) (htab : PowTab w) :
    Calls Tryd.prog 9 #[.agg #[vf, .int .i64 b.win, .int .i64 b.draw, .int .i64 b.loss, vl, .bool b.again, vg, vfa, vta], .agg #[.int .i64 k, v, .int .i64 f, .int .i64 o]] w fun e w' => e = .returned (.string (if R = true then rsnT b k f o n g else ⟨#[]⟩)) ∧ Below w.heap.size w w' := by
  cases R with
  | true => rw [if_pos rfl]; exact reasonText_impl_yes vf vl vg vfa vta b k f o v n g w (hR.1 rfl) h hs hv hn6 hf ho htab
  | false => rw [if_neg (by decide)]; exact reasonText_impl_no vf vl vg vfa vta b k f o v n g w (fun e => by have := hR.2 e; cases this) h hs hv hn6 hf ho
end Go.Proofs.YteciobkjfmddcaaDoor
