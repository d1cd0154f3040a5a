/-
  Packed: RsnText, RankSpec2, ResCell, StepClone, IntRec, TeamRec, TypeNote, Records, Records2, Records3, Records4, Records5, NotesList, Canon, Apply, BookAt.
-/
import Derived.Lib.ItoaLen
import Derived.Laws.ResultCell
import Derived.Deep.RegionHeld3
import Derived.Test.YteciobkjfmddcaaGreatDoorQ1
import Derived.Test.YteciobkjfmddcaaGreatDoorQ2
import Derived.Test.YteciobkjfmddcaaGreatDoorQ3
import Derived.Test.YteciobkjfmddcaaGreatDoorQ4
import Derived.Test.YteciobkjfmddcaaGreatDoorQ5
import Derived.Test.YteciobkjfmddcaaGreatDoorQ6
import Derived.Test.YteciobkjfmddcaaGreatDoorQ7
import Derived.Test.YteciobkjfmddcaaGreatDoorQ8
import Derived.Test.YteciobkjfmddcaaGreatDoorQ9
import Derived.Test.YteciobkjfmddcaaGreatDoorQ11
set_option linter.unusedVariables false
namespace Go.Proofs.YteciobkjfmddcaaGreatDoor
open Go.RowKit

def nmG (b : BookD) (g : Nat → Int) (i : Nat) : ByteArray := (b.f (g i).toNat).nm
def itoaB (n : Int) : ByteArray := ⟨(Lib.itoa n).toArray⟩
def rsnT (b : BookD) (k f o : Int) (n : Nat) (g : Nat → Int) : ByteArray :=
  if mutualB k = true then knmI k ++ ⟨#[32]⟩ ++ itoaB f ++ ⟨#[58]⟩ ++ itoaB o ++ ⟨#[32]⟩ ++ jn ⟨#[43]⟩ (nmG b g) n else knmI k ++ ⟨#[32]⟩ ++ itoaB f ++ ⟨#[58]⟩ ++ itoaB o
def textP (b : BookD) (k : Int) (n : Nat) (g : Nat → Int) : Prop := bookP b ∧ (1 ≤ k ∧ k ≤ 8) ∧ teamsP b.nf n g
theorem itoaB_size {n : Int} (h : isInt n) : (itoaB n).size ≤ 21 := by
  show (Lib.itoa n).toArray.size ≤ 21
  rw [List.size_toArray]
  exact Lib.itoa_length_le n h.1 h.2
theorem nm_size {b : BookD} {n : Nat} {g : Nat → Int} (hp : bookP b) (ht : teamsP b.nf n g) : ∀ i, i < n → (nmG b g i).size ≤ 8 := fun i hi => by
  have h1 := hp.1.2 (g i).toNat (by have := ht i hi; omega)
  have h2 : nameB (b.f (g i).toNat).nm = true := h1.1.1
  unfold nameB at h2
  have h3 := of_decide_eq_true h2
  exact h3.2.1
theorem tot_le {g : Nat → ByteArray} : ∀ n, (∀ i, i < n → (g i).size ≤ 8) → tot g n ≤ 8 * n
  | 0, _ => Nat.le_refl _
  | n + 1, h => by
    have := tot_le n (fun i hi => h i (by omega))
    have := h n (by omega)
    unfold tot; omega
theorem team_name {w : World} {a : Option Addr} {c n : Nat} {t : Nat} {f : Nat → TeamD} (h : TeamRow w (.slice a n c) n f) (ht : t < n) : ∃ bo off, a = some ⟨bo, off, none⟩ ∧ n ≤ c ∧ w.cell? ⟨bo, off + t * 3, none⟩ = some (.string (f t).nm) := by
  rcases h with ⟨_, _, _, h1⟩ | ⟨b', off, c', he, _, h3, hc, hcap⟩
  · omega
  · simp only [Value.slice.injEq, true_and] at he
    obtain ⟨rfl, rfl⟩ := he
    exact ⟨b', off, rfl, hcap, (hc t ht).1⟩
theorem knm_size (m : Nat) (h1 : 1 ≤ m) (h8 : m ≤ 8) : (knm m).size ≤ 100 := by
  have : m = 1 ∨ m = 2 ∨ m = 3 ∨ m = 4 ∨ m = 5 ∨ m = 6 ∨ m = 7 ∨ m = 8 := by omega
  rcases this with rfl | rfl | rfl | rfl | rfl | rfl | rfl | rfl <;> decide
theorem knm_facts {k : Int} (hk : 1 ≤ k ∧ k ≤ 8) : (knmI k).toList.isEmpty = false ∧ (knmI k).toList ≠ [] ∧ (knmI k).size ≤ 100 := by
  unfold knmI
  rw [if_pos hk]
  refine ⟨(knm_ne k.toNat (by omega) (by omega)).1, (knm_ne k.toNat (by omega) (by omega)).2, knm_size k.toNat (by omega) (by omega)⟩
theorem knm_none {k : Int} (hk : ¬ (1 ≤ k ∧ k ≤ 8)) : knmI k = ⟨#[]⟩ := by unfold knmI; rw [if_neg hk]

set_option maxRecDepth 100000 in
set_option maxHeartbeats 2000000 in
theorem reasonText_impl_no (vf vl vg vfa vta : Value) (b : BookD) (k f o : Int) (v : Value) (n : Nat) (g : Nat → Int) (w : World) (hR : ¬ textP b k n g) (h : BookRow w vf vl vg vfa vta b) (hs : ∀ i, (b.f i).nm.size ≤ maxLen) (hv : IntRow w v n g) (hn6 : n ≤ 1048576) (hf : isInt f) (ho : isInt o) :
    Calls Tryz.prog 10 #[.agg #[vf, .int .i64 b.win, .int .i64 b.draw, .int .i64 b.loss, vl, .bool b.again, vg, vfa, vta], .agg #[.int .i64 k, v, .int .i64 f, .int .i64 o]] w fun e w' => e = .returned (.string ⟨#[]⟩) ∧ Below w.heap.size w w' := by
  obtain ⟨fa, fc, la, lc, ga, gc, qa, qc, ta, tc, rfl, rfl, rfl, rfl, rfl⟩ := h.form
  obtain ⟨xa, xc, rfl, _, _⟩ := hv.form
  obtain ⟨r1, hr1⟩ := boolEx (bookP b)
  obtain ⟨r2, hr2⟩ := boolEx (teamsP b.nf n g)
  have C1 := Lib.hid (fun wa h1 => bookOk_impl (.slice fa b.nf fc) (.slice la b.nl lc) (.slice ga b.m gc) (.slice qa b.nfa qc) (.slice ta b.nta tc) b r1 wa hr1 h1 hs)
  have CK : Hid (∀ wa, Calls Tryz.prog 22 #[.int .i64 k] wa fun e w' => e = .returned (.string (knmI k)) ∧ Below wa.heap.size wa w') := fun wa => (keyName_impl k wa).mono fun e w' h => ⟨h.1, h.2 ▸ Below.refl _ _⟩
  have C2 := Lib.hid (fun wa h1 h2 => areTeams_impl (.slice fa b.nf fc) (.slice la b.nl lc) (.slice ga b.m gc) (.slice qa b.nfa qc) (.slice ta b.nta tc) b (.slice xa n xc) n g r2 wa hr2 h1 h2)
  have HX : Hid (r1 = true → (1 ≤ k ∧ k ≤ 8) → r2 = false) := fun e1 hk => by
    cases r2 with
    | false => rfl
    | true => exact absurd ⟨hr1.1 e1, hk, hr2.1 rfl⟩ hR
  have hsix := h.sixty
  have K0 := Lib.hid ((BkAt.made h 29).alloc (.cells #[.int .i64 k, .slice xa n xc, .int .i64 f, .int .i64 o] 33))
  have R0 := Lib.hid (BoxN.made (u := w.alloc (.cells #[.slice fa b.nf fc, .int .i64 b.win, .int .i64 b.draw, .int .i64 b.loss, .slice la b.nl lc, .bool b.again, .slice ga b.m gc, .slice qa b.nfa qc, .slice ta b.nta tc] 29)) (cs := #[.int .i64 k, .slice xa n xc, .int .i64 f, .int .i64 o]) (t := 33) (B := w.heap.size + 1) (Below.refl _ _) (by simp))
  have HV := Lib.hid hv
  clear hR hr1 hr2 h hs hv
  obtain ⟨U, hU⟩ : ∃ U, (w.alloc (.cells #[.slice fa b.nf fc, .int .i64 b.win, .int .i64 b.draw, .int .i64 b.loss, .slice la b.nl lc, .bool b.again, .slice ga b.m gc, .slice qa b.nfa qc, .slice ta b.nta tc] 29)).alloc (.cells #[.int .i64 k, .slice xa n xc, .int .i64 f, .int .i64 o] 33) = U := ⟨_, rfl⟩
  have hU' : (w.alloc (.cells (bkList fa fc la lc ga gc qa qc ta tc b).toArray 29)).alloc (.cells #[.int .i64 k, .slice xa n xc, .int .i64 f, .int .i64 o] 33) = U := hU
  rw [hU'] at K0
  rw [hU] at R0
  clear hU'
  obtain ⟨d0, d1, d2, d3, d4, d5, d6, d7, d8⟩ := K0.out.cells
  go_enter Tryz.func10, Tryz.ntmps10
  go_wp2_with fail
  refine (C1.out _ K0.out.row).mono ?_
  rintro e w1 ⟨rfl, b1⟩
  clear hU
  have K1 := Lib.hid (K0.out.next b1)
  have R1 := Lib.hid (BoxN.below R0.out b1)
  clear d0 d1 d2 d3 d4 d5 d6 d7 d8 K0 R0 b1
  cases r1 with
  | false =>
    have HE := Lib.hid K1.out.bel
    go_wp2
    go_ret
    exact ⟨rfl, HE.out⟩
  | true =>
    have c0 := R1.out.2 0 _ rfl
    by_cases hk : 1 ≤ k ∧ k ≤ 8
    case neg =>
      rw [knm_none hk] at CK
      go_wp2_with fail
      refine (CK.out _).mono ?_
      rintro e w2 ⟨rfl, b2⟩
      have HE := Lib.hid (K1.out.bel.trans (b2.mono K1.out.bel.size))
      clear b2
      have e0 : (ByteArray.mk #[]).toList.isEmpty = true := emp_yes _ (by decide)
      go_wp2
      go_ret
      exact ⟨rfl, HE.out⟩
    obtain rfl := HX.out (by first | rfl | trivial) hk
    have hkf := knm_facts hk
    generalize knmI k = Z at *
    have e0 := hkf.1
    have e1 := hkf.2.1
    go_wp2_with fail
    refine (CK.out _).mono ?_
    rintro e w2 ⟨rfl, b2⟩
    have K2 := Lib.hid (K1.out.next b2)
    have R2 := Lib.hid (BoxN.below R1.out b2)
    clear c0 K1 R1 b2 hkf
    obtain ⟨d0, d1, d2, d3, d4, d5, d6, d7, d8⟩ := K2.out.cells
    have c1 := R2.out.2 1 _ rfl
    go_wp2_with fail
    refine (C2.out _ K2.out.row (HV.out.below K2.out.bel (Nat.le_refl _))).mono ?_
    rintro e w3 ⟨rfl, b3⟩
    have HE := Lib.hid (K2.out.bel.trans (b3.mono K2.out.bel.size))
    clear d0 d1 d2 d3 d4 d5 d6 d7 d8 c1 b3 K2 R2
    go_wp2
    go_ret
    exact ⟨rfl, HE.out⟩

theorem grown_belowT {w w' : World} (h : w.grownBy w' none) : Below w.heap.size w w' := (Below.refl _ _).grown h (Nat.le_refl _) (fun k hk => by cases hk)
set_option maxRecDepth 100000 in
set_option maxHeartbeats 2000000 in
theorem namesOf_impl (vf vl vg vfa vta : Value) (b : BookD) (v : Value) (n : Nat) (g : Nat → Int) (w : World) (ht : teamsP b.nf n g) (h : BookRow w vf vl vg vfa vta b) (hv : IntRow w v n g) (hn6 : n ≤ 1048576) :
    Calls Tryz.prog 27 #[.agg #[vf, .int .i64 b.win, .int .i64 b.draw, .int .i64 b.loss, vl, .bool b.again, vg, vfa, vta], v] w fun e w' => ∃ vv, e = .returned vv ∧ w'.ownsRow w.heap.size 9 1 vv n ((List.range n).map fun j => Value.string (nmG b g j)) ∧ Below w.heap.size w w' := by
  obtain ⟨i0, hi, hz0, hz1, hz2⟩ := info_parts Tryz.infoS
  obtain ⟨fa, fc, la, lc, ga, gc, qa, qc, ta, tc, rfl, rfl, rfl, rfl, rfl⟩ := h.form
  obtain ⟨xa, xc, rfl, hx64, _⟩ := hv.form
  have K0 := Lib.hid (BkAt.made h 29)
  have hsix := h.sixty
  have HV := Lib.hid hv
  have HTM := Lib.hid ht
  clear h hv ht
  obtain ⟨d0, d1, d2, d3, d4, d5, d6, d7, d8⟩ := K0.out.cells
  go_enter Tryz.func27, Tryz.ntmps27
  go_wp2_with (at_make; refine wpList_make_full _ rfl _ _ 63 rfl (w.heap.size + 1) 9 i0 (.string ByteArray.empty) 1 Tryz.underlying63 hi hz0 hz1 .i64 .i64 n n n rfl rfl rfl rfl (by rw [hz2]; omega) (by unfold maxLen; omega) (by simp) ?_; intro w2 hown hg2)
  have b2 := Lib.hid (grown_belowT hg2)
  have K2 := Lib.hid (K0.out.next b2.out)
  have hes : (w.alloc (.cells #[.slice fa b.nf fc, .int .i64 b.win, .int .i64 b.draw, .int .i64 b.loss, .slice la b.nl lc, .bool b.again, .slice ga b.m gc, .slice qa b.nfa qc, .slice ta b.nta tc] 29)).heap.size = w.heap.size + 1 := by simp
  rw [hes] at hown
  have HO2 := Lib.hid hown
  clear hes
  clear hg2 hown K0 d0 d1 d2 d3 d4 d5 d6 d7 d8 b2
  go_loopw [13] (fun iv wr => ∃ (j : Nat) (ys : List Value), j ≤ n ∧ iv = .int .i64 j ∧ wr.ownsRow (w.heap.size + 1) 9 1 (.slice (some ⟨w.heap.size + 1, 0, none⟩) n n) n ys ∧ Hid (∀ t, t < j → ys[t]? = some (.string (nmG b g t))) ∧ Hid (BkAt w wr w.heap.size fa fc la lc ga gc qa qc ta tc b))
    (fun iv _ => n - (RowKit.intOf iv).toNat)
  case atStart => exact ⟨0, _, Nat.zero_le _, rfl, HO2.out, fun t ht => absurd ht (by omega), K2⟩
  case round =>
    obtain ⟨j, ys, hj, rfl, hown', hys, K⟩ := hrel
    clear HO2 K2
    by_cases hlt : j < n
    · obtain ⟨xb, xo, rfl, hxc, q0⟩ := int_at (HV.out.below K.out.bel (Nat.le_refl _)) hlt
      obtain ⟨u, hu⟩ : ∃ u : Nat, g j = (u : Int) := ⟨(g j).toNat, by have := HTM.out j hlt; omega⟩
      have hul : u < b.nf := by have := HTM.out j hlt; omega
      obtain ⟨fb, fo, rfl, hfc, q1⟩ := team_name K.out.row.1 hul
      have e2 : (b.f u).nm = nmG b g j := by unfold nmG; rw [hu]; rfl
      rw [hu] at q0
      rw [e2] at q1
      obtain ⟨d0, d1, d2, d3, d4, d5, d6, d7, d8⟩ := K.out.cells
      obtain ⟨uu, huu⟩ := owns_some hown' j hlt
      have HU := Lib.hid huu
      have hcl := owns_cell hown' j hlt HU
      have hfr := hown'.frozenAt j
      have HO' := Lib.hid hown'
      have hji : (j : Int) < (n : Int) := by omega
      have hui : (u : Int) < (b.nf : Int) := by omega
      obtain ⟨nm, hnm⟩ : ∃ nm, nmG b g j = nm := ⟨_, rfl⟩
      rw [hnm] at q1
      have HNM := Lib.hid hnm
      clear huu hown' hu e2 hnm
      go_wp2
      go_roundw
      case rel =>
        refine ⟨j + 1, ys.set j (.string nm), by omega, by go_num, (HO'.out.stored j _).1, fun t ht => ?_, K.out.store (by simp) (by simp) _⟩
        have hlen := HO'.out.1
        by_cases htj : t = j
        · subst htj
          rw [List.getElem?_set_self (by omega), HNM.out]
        · rw [List.getElem?_set_ne (by omega)]
          exact hys.out t (by omega)
      case measure => simp [RowKit.intOf]; omega
    · obtain rfl : n = j := by omega
      have hys2 : ys = (List.range n).map fun j => Value.string (nmG b g j) := by
        have hlen := hown'.1
        apply List.ext_getElem?
        intro t
        by_cases ht : t < n
        · rw [hys.out t ht]; simp [ht]
        · rw [List.getElem?_eq_none (by omega), List.getElem?_eq_none (by simp; omega)]
      subst hys2
      have HR := Lib.hid (owns_mono (base' := w.heap.size) hown' (by omega))
      have HE := Lib.hid K.out.bel
      clear hown' hys
      go_wp2
      go_ret
      exact ⟨_, rfl, HR.out, HE.out⟩

set_option maxRecDepth 100000 in
set_option maxHeartbeats 4000000 in
theorem reasonText_impl_yes (vf vl vg vfa vta : Value) (b : BookD) (k f o : Int) (v : Value) (n : Nat) (g : Nat → Int) (w : World) (hp : textP b k n g) (h : BookRow w vf vl vg vfa vta b) (hs : ∀ i, (b.f i).nm.size ≤ maxLen) (hv : IntRow w v n g) (hn6 : n ≤ 1048576) (hf : isInt f) (ho : isInt o) (htab : PowTab w) :
    Calls Tryz.prog 10 #[.agg #[vf, .int .i64 b.win, .int .i64 b.draw, .int .i64 b.loss, vl, .bool b.again, vg, vfa, vta], .agg #[.int .i64 k, v, .int .i64 f, .int .i64 o]] w fun e w' => e = .returned (.string (rsnT b k f o n g)) ∧ Below w.heap.size w w' := by
  obtain ⟨i0, hi, hz0, hz1, hz2⟩ := info_parts Tryz.infoS
  obtain ⟨fa, fc, la, lc, ga, gc, qa, qc, ta, tc, rfl, rfl, rfl, rfl, rfl⟩ := h.form
  obtain ⟨xa, xc, rfl, hx64, _⟩ := hv.form
  have C1 := Lib.hid (fun wa h1 => bookOk_impl (.slice fa b.nf fc) (.slice la b.nl lc) (.slice ga b.m gc) (.slice qa b.nfa qc) (.slice ta b.nta tc) b true wa ⟨fun _ => hp.1, fun _ => rfl⟩ h1 hs)
  have CK : Hid (∀ wa, Calls Tryz.prog 22 #[.int .i64 k] wa fun e w' => e = .returned (.string (knmI k)) ∧ Below wa.heap.size wa w') := fun wa => (keyName_impl k wa).mono fun e w' h => ⟨h.1, h.2 ▸ Below.refl _ _⟩
  have C2 := Lib.hid (fun wa h1 h2 => areTeams_impl (.slice fa b.nf fc) (.slice la b.nl lc) (.slice ga b.m gc) (.slice qa b.nfa qc) (.slice ta b.nta tc) b (.slice xa n xc) n g true wa ⟨fun _ => hp.2.2, fun _ => rfl⟩ h1 h2)
  have CMU : Hid (∀ wa, Calls Tryz.prog 25 #[.int .i64 k] wa fun e w' => e = .returned (.bool (mutualB k)) ∧ wa = w') := fun wa => (isMutual_impl k wa).mono fun e w' h => ⟨h.1, h.2⟩
  have CF : Hid (∀ wa, Below w.heap.size w wa → Calls Tryz.prog 24 #[.int .i64 f] wa fun e w' => e = .returned (.string (itoaB f)) ∧ Below wa.heap.size wa w') := fun wa hb => formatInt_impl f wa hf (VarAt.below htab hb (Nat.le_refl _))
  have CO : Hid (∀ wa, Below w.heap.size w wa → Calls Tryz.prog 24 #[.int .i64 o] wa fun e w' => e = .returned (.string (itoaB o)) ∧ Below wa.heap.size wa w') := fun wa hb => formatInt_impl o wa ho (VarAt.below htab hb (Nat.le_refl _))
  have CNM : Hid (∀ wa, BookRow wa (.slice fa b.nf fc) (.slice la b.nl lc) (.slice ga b.m gc) (.slice qa b.nfa qc) (.slice ta b.nta tc) b → IntRow wa (.slice xa n xc) n g → Calls Tryz.prog 27 #[.agg #[.slice fa b.nf fc, .int .i64 b.win, .int .i64 b.draw, .int .i64 b.loss, .slice la b.nl lc, .bool b.again, .slice ga b.m gc, .slice qa b.nfa qc, .slice ta b.nta tc], .slice xa n xc] wa fun e w' => ∃ vv, e = .returned vv ∧ w'.ownsRow wa.heap.size 9 1 vv n ((List.range n).map fun j => Value.string (nmG b g j)) ∧ Below wa.heap.size wa w') := fun wa h1 h2 => namesOf_impl _ _ _ _ _ b _ n g wa hp.2.2 h1 h2 hn6
  clear htab
  have hsix := h.sixty
  have K0 := Lib.hid ((BkAt.made h 29).alloc (.cells #[.int .i64 k, .slice xa n xc, .int .i64 f, .int .i64 o] 33))
  have R0 := Lib.hid (BoxN.made (u := w.alloc (.cells #[.slice fa b.nf fc, .int .i64 b.win, .int .i64 b.draw, .int .i64 b.loss, .slice la b.nl lc, .bool b.again, .slice ga b.m gc, .slice qa b.nfa qc, .slice ta b.nta tc] 29)) (cs := #[.int .i64 k, .slice xa n xc, .int .i64 f, .int .i64 o]) (t := 33) (B := w.heap.size + 1) (Below.refl _ _) (by simp))
  have HV := Lib.hid hv
  have HTM := Lib.hid hp.2.2
  have HNM := Lib.hid (nm_size hp.1 hp.2.2)
  have hkf := knm_facts hp.2.1
  have hFs := itoaB_size hf
  have hOs := itoaB_size ho
  have HR : Hid (rsnT b k f o n g = if mutualB k = true then knmI k ++ ⟨#[32]⟩ ++ itoaB f ++ ⟨#[58]⟩ ++ itoaB o ++ ⟨#[32]⟩ ++ jn ⟨#[43]⟩ (nmG b g) n else knmI k ++ ⟨#[32]⟩ ++ itoaB f ++ ⟨#[58]⟩ ++ itoaB o) := rfl
  generalize rsnT b k f o n g = RT at *
  generalize knmI k = Z at *
  generalize itoaB f = Fs at *
  generalize itoaB o = Os at *
  generalize mutualB k = mu at *
  clear h hs hv hp
  obtain ⟨U, hU⟩ : ∃ U, (w.alloc (.cells #[.slice fa b.nf fc, .int .i64 b.win, .int .i64 b.draw, .int .i64 b.loss, .slice la b.nl lc, .bool b.again, .slice ga b.m gc, .slice qa b.nfa qc, .slice ta b.nta tc] 29)).alloc (.cells #[.int .i64 k, .slice xa n xc, .int .i64 f, .int .i64 o] 33) = U := ⟨_, rfl⟩
  have hU' : (w.alloc (.cells (bkList fa fc la lc ga gc qa qc ta tc b).toArray 29)).alloc (.cells #[.int .i64 k, .slice xa n xc, .int .i64 f, .int .i64 o] 33) = U := hU
  rw [hU'] at K0
  rw [hU] at R0
  clear hU'
  obtain ⟨d0, d1, d2, d3, d4, d5, d6, d7, d8⟩ := K0.out.cells
  have e0 := hkf.1
  have e1 := hkf.2.1
  have hZs := hkf.2.2
  go_enter Tryz.func10, Tryz.ntmps10
  go_wp2_with fail
  refine (C1.out _ K0.out.row).mono ?_
  rintro e w1 ⟨rfl, b1⟩
  clear hU
  have K1 := Lib.hid (K0.out.next b1)
  have R1 := Lib.hid (BoxN.below R0.out b1)
  clear d0 d1 d2 d3 d4 d5 d6 d7 d8 K0 R0 b1
  have c0 := R1.out.2 0 _ rfl
  go_wp2_with fail
  refine (CK.out _).mono ?_
  rintro e w2 ⟨rfl, b2⟩
  have K2 := Lib.hid (K1.out.next b2)
  have R2 := Lib.hid (BoxN.below R1.out b2)
  clear c0 K1 R1 b2 hkf
  obtain ⟨d0, d1, d2, d3, d4, d5, d6, d7, d8⟩ := K2.out.cells
  have c1 := R2.out.2 1 _ rfl
  go_wp2_with fail
  refine (C2.out _ K2.out.row (HV.out.below K2.out.bel (Nat.le_refl _))).mono ?_
  rintro e w3 ⟨rfl, b3⟩
  have K3 := Lib.hid (K2.out.next b3)
  have R3 := Lib.hid (BoxN.below R2.out b3)
  clear d0 d1 d2 d3 d4 d5 d6 d7 d8 c1 b3 K2 R2 e0 e1
  obtain ⟨S, HSd⟩ : ∃ S : World → Prop, S = fun U => BkAt w U w.heap.size fa fc la lc ga gc qa qc ta tc b ∧ BoxN U (w.heap.size + 1) [.int .i64 k, .slice xa n xc, .int .i64 f, .int .i64 o] := ⟨_, rfl⟩
  have KS : Hid (∀ wa wb, S wa → Below wa.heap.size wa wb → S wb) := by subst HSd; exact fun wa wb h bb => ⟨h.1.next bb, BoxN.below h.2 bb⟩
  have OS : Hid (∀ wa, S wa → BkAt w wa w.heap.size fa fc la lc ga gc qa qc ta tc b ∧ BoxN wa (w.heap.size + 1) [.int .i64 k, .slice xa n xc, .int .i64 f, .int .i64 o]) := by subst HSd; exact fun wa h => h
  have IS : Hid (S w3) := by subst HSd; exact ⟨K3.out, R3.out⟩
  have ISd : Hid (S w3.drew) := KS.out _ _ IS.out (Below.refl _ _).drew
  clear HSd IS K3 R3
  go_wp2_with fail
  refine wp_region_held_drew (S := S) (by kernel_rfl) ?_ (fun hHeld => ?_)
  · exact ISd.out
  refine wpAnyH_take (i := 0) (v := ?_) rfl (by kernel_rfl) (by kernel_rfl) (by kernel_rfl) (fun _ _ _ h => h) (Or.inl ⟨by rfl, ?_⟩) hHeld ?_
  rotate_left
  · (intro wa hSw; go_simp; try with_reducible rfl)
  simp only [Act.put, List.getElem_toArray, List.getElem_cons_zero, List.setIfInBounds_toArray, List.set_cons_zero, List.set_cons_succ]
  refine wpAnyH_take (i := 1) (v := ?_) rfl (by kernel_rfl) (by kernel_rfl) (by kernel_rfl) (fun _ _ _ h => h) (Or.inl ⟨by rfl, ?_⟩) hHeld ?_
  rotate_left
  · (intro wa hSw; have K := OS.out _ hSw; have q0 := K.2.2 0 _ rfl; go_simp; try with_reducible rfl)
  simp only [Act.put, List.getElem_toArray, List.getElem_cons_zero, List.getElem_cons_succ, List.setIfInBounds_toArray, List.set_cons_zero, List.set_cons_succ]
  refine wpAnyH_take (i := 3) (v := ?_) rfl (by kernel_rfl) (by kernel_rfl) (by kernel_rfl) (fun _ _ _ h => h) (Or.inl ⟨by rfl, ?_⟩) hHeld ?_
  rotate_left
  · (intro wa hSw; go_simp; try with_reducible rfl)
  simp only [Act.put, List.getElem_toArray, List.getElem_cons_zero, List.getElem_cons_succ, List.setIfInBounds_toArray, List.set_cons_zero, List.set_cons_succ]
  refine wpAnyH_take (i := 4) (v := ?_) rfl (by kernel_rfl) (by kernel_rfl) (by kernel_rfl) (fun _ _ _ h => h) (Or.inl ⟨by rfl, ?_⟩) hHeld ?_
  rotate_left
  · (intro wa hSw; have K := OS.out _ hSw; have q2 := K.2.2 2 _ rfl; go_simp; try with_reducible rfl)
  simp only [Act.put, List.getElem_toArray, List.getElem_cons_zero, List.getElem_cons_succ, List.setIfInBounds_toArray, List.set_cons_zero, List.set_cons_succ]
  refine wpAnyH_take (i := 7) (v := ?_) rfl (by kernel_rfl) (by kernel_rfl) (by kernel_rfl) (fun _ _ _ h => h) (Or.inl ⟨by rfl, ?_⟩) hHeld ?_
  rotate_left
  · (intro wa hSw; go_simp; try with_reducible rfl)
  simp only [Act.put, List.getElem_toArray, List.getElem_cons_zero, List.getElem_cons_succ, List.setIfInBounds_toArray, List.set_cons_zero, List.set_cons_succ]
  refine wpAnyH_take (i := 8) (v := ?_) rfl (by kernel_rfl) (by kernel_rfl) (by kernel_rfl) (fun _ _ _ h => h) (Or.inl ⟨by rfl, ?_⟩) hHeld ?_
  rotate_left
  · (intro wa hSw; have K := OS.out _ hSw; have q3 := K.2.2 3 _ rfl; go_simp; try with_reducible rfl)
  simp only [Act.put, List.getElem_toArray, List.getElem_cons_zero, List.getElem_cons_succ, List.setIfInBounds_toArray, List.set_cons_zero, List.set_cons_succ]
  refine wpAnyH_ready (rs := [2]) (by kernel_rfl) (by simp) ?_
  refine AllReadyH.cons (o := _) rfl (fun K hK => ?_) AllReadyH.nil
  go_simp
  have KK := OS.out _ hHeld
  refine (CK.out _).mono ?_
  rintro e w101 ⟨rfl, bb101⟩
  clear KK
  (try go_wp2_with fail)
  refine hK.out _ _ ?_ (fun hHeld101 => ?_)
  · exact KS.out _ _ hHeld bb101
  clear hK K
  refine wpAnyH_ready (rs := [5]) (by kernel_rfl) (by simp) ?_
  refine AllReadyH.cons (o := _) rfl (fun K hK => ?_) AllReadyH.nil
  go_simp
  have KK := OS.out _ hHeld101
  refine (CF.out _ KK.1.bel).mono ?_
  rintro e w102 ⟨rfl, bb102⟩
  clear KK
  (try go_wp2_with fail)
  refine hK.out _ _ ?_ (fun hHeld102 => ?_)
  · exact KS.out _ _ hHeld101 bb102
  clear hK K
  refine wpAnyH_take (i := 6) (v := ?_) rfl (by kernel_rfl) (by kernel_rfl) (by kernel_rfl) (fun _ _ _ h => h) (Or.inl ⟨by rfl, ?_⟩) hHeld102 ?_
  rotate_left
  · (intro wa hSw; go_simp; rw [if_neg (by (try simp only [ByteArray.size_append]); omega)]; try with_reducible rfl)
  simp only [Act.put, List.getElem_toArray, List.getElem_cons_zero, List.getElem_cons_succ, List.setIfInBounds_toArray, List.set_cons_zero, List.set_cons_succ]
  refine wpAnyH_ready (rs := [9]) (by kernel_rfl) (by simp) ?_
  refine AllReadyH.cons (o := _) rfl (fun K hK => ?_) AllReadyH.nil
  go_simp
  have KK := OS.out _ hHeld102
  refine (CO.out _ KK.1.bel).mono ?_
  rintro e w103 ⟨rfl, bb103⟩
  clear KK
  (try go_wp2_with fail)
  refine hK.out _ _ ?_ (fun hHeld103 => ?_)
  · exact KS.out _ _ hHeld102 bb103
  clear hK K
  refine wpAnyH_take (i := 10) (v := ?_) rfl (by kernel_rfl) (by kernel_rfl) (by kernel_rfl) (fun _ _ _ h => h) (Or.inl ⟨by rfl, ?_⟩) hHeld103 ?_
  rotate_left
  · (intro wa hSw; go_simp; rw [if_neg (by (try simp only [ByteArray.size_append]); omega)]; try with_reducible rfl)
  simp only [Act.put, List.getElem_toArray, List.getElem_cons_zero, List.getElem_cons_succ, List.setIfInBounds_toArray, List.set_cons_zero, List.set_cons_succ]
  refine wpAnyH_ready (rs := [11]) (by kernel_rfl) (by simp) ?_
  refine AllReadyH.cons (o := _) rfl (fun K hK => ?_) AllReadyH.nil
  go_simp
  refine hK.out _ _ ?_ (fun hHeld104 => ?_)
  · exact KS.out _ _ hHeld103 ((Below.refl _ _).alloc (Nat.le_refl _) _)
  clear hK K
  refine wpAnyH_take (i := 12) (v := ?_) rfl (by kernel_rfl) (by kernel_rfl) (by kernel_rfl) (fun _ _ _ h => h) (Or.inl ⟨by rfl, ?_⟩) hHeld104 ?_
  rotate_left
  · (intro wa hSw; go_simp; try with_reducible rfl)
  simp only [Act.put, List.getElem_toArray, List.getElem_cons_zero, List.getElem_cons_succ, List.setIfInBounds_toArray, List.set_cons_zero, List.set_cons_succ]
  refine wpAnyH_done (by kernel_rfl) ?_ _
  have KE := Lib.hid (OS.out _ hHeld104)
  have HBS : Hid (w.heap.size ≤ w103.heap.size) := (OS.out _ hHeld103).1.bel.size
  clear KS OS ISd hHeld hHeld101 hHeld102 hHeld103 hHeld104 CK CF CO C1 C2
  have hFO : (Fs ++ ⟨#[58]⟩ ++ Os).size ≤ 100 := by
    simp only [ByteArray.size_append]
    have h2 : (⟨#[58]⟩ : ByteArray).size = 1 := rfl
    omega
  have HFO : Hid (Z ++ ⟨#[32]⟩ ++ (Fs ++ ⟨#[58]⟩ ++ Os) = Z ++ ⟨#[32]⟩ ++ Fs ++ ⟨#[58]⟩ ++ Os) := by show _ = _; simp only [ByteArray.append_assoc]
  have OW := Lib.hid (World.ownsRow_lit (e := 9) (size := 1) w103 #[.string Z, .string (Fs ++ ⟨#[58]⟩ ++ Os)] 2 (Nat.le_refl _) (by decide) rfl)
  obtain ⟨U2, hU2⟩ : ∃ U2, w103.alloc (.cells #[.string Z, .string (Fs ++ ⟨#[58]⟩ ++ Os)] 9) = U2 := ⟨_, rfl⟩
  have HSU : Hid (U2.heap.size = w103.heap.size + 1) := by show _ = _; rw [← hU2]; simp
  rw [hU2] at KE OW ⊢
  clear hU2
  generalize Fs ++ ⟨#[58]⟩ ++ Os = FO at *
  have c0 := KE.out.2.2 0 _ rfl
  go_wp2_with fail
  refine (CMU.out _).mono ?_
  rintro e w4 ⟨rfl, hw4⟩
  subst hw4
  cases mu with
  | false =>
    have HR2 : Hid (RT = Z ++ ⟨#[32]⟩ ++ Fs ++ ⟨#[58]⟩ ++ Os) := HR.out
    have hst : StrRow U2 (.slice (some ⟨w103.heap.size, 0, none⟩) 2 2) 2 (fun i => if i = 0 then Z else FO) := StrRow.of_owns OW.out (by omega) (fun j hj => by
      have : j = 0 ∨ j = 1 := by omega
      rcases this with rfl | rfl <;> rfl)
    have CJ := Lib.hid (join_implL _ 2 _ ⟨#[32]⟩ U2 hst (by omega) (by simp [tot]; omega) (by decide))
    have e3 : jn ⟨#[32]⟩ (fun i => if i = 0 then Z else FO) 2 = Z ++ ⟨#[32]⟩ ++ FO := by simp [jn]
    rw [e3] at CJ
    have HE := Lib.hid KE.out.1.bel
    clear HR hst e3 c0
    go_wp2_with fail
    refine CJ.out.mono ?_
    rintro e w5 ⟨rfl, b5⟩
    have HE5 := Lib.hid (HE.out.trans (b5.mono HE.out.size))
    clear b5
    go_wp2
    go_ret
    exact ⟨by rw [HR2.out, ← HFO.out]; rfl, HE5.out⟩
  | true =>
    have HR2 : Hid (RT = Z ++ ⟨#[32]⟩ ++ Fs ++ ⟨#[58]⟩ ++ Os ++ ⟨#[32]⟩ ++ jn ⟨#[43]⟩ (nmG b g) n) := HR.out
    have c1 := KE.out.2.2 1 _ rfl
    obtain ⟨d0, d1, d2, d3, d4, d5, d6, d7, d8⟩ := KE.out.1.cells
    clear HR c0
    go_wp2_with fail
    refine (CNM.out _ KE.out.1.row (HV.out.below KE.out.1.bel (Nat.le_refl _))).mono ?_
    rintro e w5 ⟨nv, rfl, hno, b5⟩
    obtain ⟨ya, yc, hnf⟩ := owns_form hno
    subst hnf
    have hst : StrRow w5 (.slice ya n yc) n (nmG b g) := StrRow.of_owns hno (by omega) (fun j hj => by simp [hj])
    have htt := tot_le n HNM.out
    have CJ := Lib.hid (join_implL (.slice ya n yc) n (nmG b g) ⟨#[43]⟩ w5 hst hn6 (by omega) (by decide))
    have hjs := jn_size ⟨#[43]⟩ (nmG b g) n
    have hj1 : (⟨#[43]⟩ : ByteArray).size = 1 := rfl
    have hjs2 : (jn ⟨#[43]⟩ (nmG b g) n).size ≤ 100000000 := by rw [hj1] at hjs; omega
    have HE5 := Lib.hid (KE.out.1.bel.trans (b5.mono KE.out.1.bel.size))
    have OW5 := Lib.hid (owns_below OW.out b5 (Nat.le_refl _))
    have HS5 := Lib.hid b5.size
    generalize jn ⟨#[43]⟩ (nmG b g) n = J at *
    clear hst htt hjs hj1 hno d0 d1 d2 d3 d4 d5 d6 d7 d8 c1 CNM b5 OW KE
    go_wp2_with fail
    refine CJ.out.mono ?_
    rintro e w6 ⟨rfl, b6⟩
    have HE6 := Lib.hid (HE5.out.trans (b6.mono HE5.out.size))
    have OW6 := OW5.out
    have hown := owns_below OW6 b6 (Nat.le_refl _)
    have hsz : w103.heap.size ≤ w6.heap.size := by have := HSU.out; have := HS5.out; have := b6.size; omega
    have HB6 : Hid (w.heap.size ≤ w6.heap.size) := HE6.out.size
    clear OW6 b6 CJ
    go_wp2_with (at_builtin; refine wpList_pushL rfl (.tmp 37) (.tmp 43) 63 rfl w103.heap.size 9 Tryz.underlying63 hi hz0 hz1 hz2 rfl (by decide) [.string J] rfl (by intro u hu; simp at hu; subst hu; rfl) rfl (by show Value.slice (some ⟨_, 0, none⟩) 1 1 = _; simp) hown (by unfold maxLen; omega) (by omega) hsz ?_; intro gg7 cc7 w7 o7 g7 at7 lt7)
    have hst7 : StrRow w7 (.slice (some ⟨gg7, 0, none⟩) 3 cc7) 3 (fun i => if i = 0 then Z else if i = 1 then FO else J) := StrRow.of_owns o7 (by omega) (fun j hj => by
      have : j = 0 ∨ j = 1 ∨ j = 2 := by omega
      rcases this with rfl | rfl | rfl <;> rfl)
    have CJ7 := Lib.hid (join_implL _ 3 _ ⟨#[32]⟩ w7 hst7 (by omega) (by simp [tot]; omega) (by decide))
    have e3 : jn ⟨#[32]⟩ (fun i => if i = 0 then Z else if i = 1 then FO else J) 3 = Z ++ ⟨#[32]⟩ ++ FO ++ ⟨#[32]⟩ ++ J := by simp [jn]
    rw [e3] at CJ7
    have HE7 := Lib.hid (HE6.out.grown g7 HE6.out.size (fun q hq => by have := (hown.lt q hq).1; have := HBS.out; omega))
    clear hst7 e3 o7 g7 at7 hown
    go_wp2_with fail
    refine CJ7.out.mono ?_
    rintro e w8 ⟨rfl, b8⟩
    have HE8 := Lib.hid (HE7.out.trans (b8.mono HE7.out.size))
    clear b8
    go_wp2
    go_ret
    exact ⟨by rw [HR2.out, ← HFO.out]; rfl, HE8.out⟩

theorem reasonText_impl (vf vl vg vfa vta : Value) (b : BookD) (k f o : Int) (v : Value) (n : Nat) (g : Nat → Int) (R : Bool) (w : World) (hR : R = true ↔ textP b k n g) (h : BookRow w vf vl vg vfa vta b) (hs : ∀ i, (b.f i).nm.size ≤ maxLen) (hv : IntRow w v n g) (hn6 : n ≤ 1048576) (hf : isInt f) (ho : isInt o) (htab : PowTab w) :
    Calls Tryz.prog 10 #[.agg #[vf, .int .i64 b.win, .int .i64 b.draw, .int .i64 b.loss, vl, .bool b.again, vg, vfa, vta], .agg #[.int .i64 k, v, .int .i64 f, .int .i64 o]] w fun e w' => e = .returned (.string (if R = true then rsnT b k f o n g else ⟨#[]⟩)) ∧ Below w.heap.size w w' := by
  cases R with
  | true => rw [if_pos rfl]; exact reasonText_impl_yes vf vl vg vfa vta b k f o v n g w (hR.1 rfl) h hs hv hn6 hf ho htab
  | false => rw [if_neg (by decide)]; exact reasonText_impl_no vf vl vg vfa vta b k f o v n g w (fun e => by have := hR.2 e; cases this) h hs hv hn6 hf ho
end Go.Proofs.YteciobkjfmddcaaGreatDoor
set_option linter.unusedVariables false
namespace Go.Proofs.YteciobkjfmddcaaGreatDoor
open Go.RowKit

theorem rank_ne (b : BookD) : ∀ G s, ∀ p ∈ rankP b G s, p ≠ [] := by
  refine rankP_ind b (P := fun _ _ L => ∀ p ∈ L, p ≠ []) (fun s p hp => by cases hp) (fun G s hG _ p hp => ?_) (fun G s hG h1 hs ih p hp => ?_)
  · simp only [List.mem_singleton] at hp; subst hp; exact hG
  · rw [rankP_step b hG h1 hs] at hp
    obtain ⟨q, hq, hpq⟩ := List.mem_flatMap.1 hp
    exact ih q hq p hpq
theorem flat_take {α : Type} (L : List (List α)) (k : Nat) {x : List α} (h : L[k]? = some x) : (L.take (k + 1)).flatten = (L.take k).flatten ++ x := by
  simp [List.take_add_one, h, List.flatten_append]
theorem flat_take_le {α : Type} (L : List (List α)) (k : Nat) : (L.take k).flatten.length ≤ L.flatten.length := by
  have h := congrArg List.length (congrArg List.flatten (List.take_append_drop k L))
  rw [List.flatten_append, List.length_append] at h
  omega
theorem all_flat (b : BookD) : (rankP b (allL b.nf) 0).flatten.length = b.nf := by rw [(rank_perm b (allL b.nf) 0).length_eq, allL_len]

end Go.Proofs.YteciobkjfmddcaaGreatDoor
set_option linter.unusedVariables false
namespace Go.Proofs.YteciobkjfmddcaaGreatDoor
open Go.RowKit

theorem results_cell {fn : Func} {p : Tmp} {ty : TypeId} (h : fn.results = #[.cell p ty]) (tmps : Array Value) (P : Program) (w : World) :
    (results fn tmps).run P w = ((asAddr (tmps.getD p undef)).run P w).andThen fun a w₁ => (loadVar ty a).run P w₁ := by
  simp only [results, h]
  simp [Sem.run_bind, Result.andThen]
theorem post_named {Q : Exit → Act → World → Prop} {x : Exit} {a : Act} {w : World} (h : ∀ w', Hid (w' = w) → Q x a w') : Q x a w := h w rfl
def ResAt (w : World) (B k : Nat) : Prop := ∃ cs, cs.length = k ∧ BoxF w B cs
theorem ResAt.made (u : World) (cs : Array Value) (t : TypeId) : ResAt (u.alloc (.cells cs t)) u.heap.size cs.size := ⟨cs.toList, by simp, BoxF.made (Below.refl _ _) rfl⟩
theorem ResAt.made' {u : World} {cs : Array Value} {t : TypeId} {B k : Nat} (hB : u.heap.size = B) (hk : cs.size = k) : ResAt (u.alloc (.cells cs t)) B k := by subst hB hk; exact ResAt.made _ _ _
theorem ResAt.below {w w' : World} {B k : Nat} (h : ResAt w B k) (hb : Below w.heap.size w w') : ResAt w' B k := by
  obtain ⟨cs, hl, hc⟩ := h
  exact ⟨cs, hl, hc.below hb⟩
theorem ResAt.lt {w : World} {B k : Nat} (h : ResAt w B k) : B < w.heap.size := by
  obtain ⟨cs, _, hc⟩ := h
  exact hc.1
theorem ResAt.at {w : World} {B k : Nat} (h : ResAt w B k) (j : Nat) (hj : j < k) : (∃ v, w.cell? ⟨B, j, none⟩ = some v) ∧ w.frozen? ⟨B, j, none⟩ = false := by
  obtain ⟨cs, hl, hc⟩ := h
  have := hc.2 j _ (List.getElem?_eq_getElem (by omega : j < cs.length))
  exact ⟨⟨_, this.1⟩, this.2⟩
def putCs (w : World) (B : Nat) : Nat → List Value → World
  | _, [] => w
  | o, v :: vs => putCs (w.setCell ⟨B, o, none⟩ v) B (o + 1) vs
theorem BoxF.putCs {B : Nat} : ∀ (vs : List Value) (o : Nat) (w : World) (cs : List Value), BoxF w B cs → o + vs.length ≤ cs.length → BoxF (Go.Proofs.YteciobkjfmddcaaGreatDoor.putCs w B o vs) B (setsFrom cs o vs)
  | [], _, _, _, h, _ => h
  | v :: vs, o, w, cs, h, hl => by
    simp only [List.length_cons] at hl
    exact BoxF.putCs vs (o + 1) _ _ (h.set o v (by omega)) (by simp; omega)
theorem setsFrom_all {cs vs : List Value} (h : cs.length = vs.length) : setsFrom cs 0 vs = vs := by
  refine List.ext_getElem? fun j => ?_
  by_cases hj : j < vs.length
  · have h1 := setsFrom_in vs cs 0 j vs[j] (by omega) (List.getElem?_eq_getElem hj)
    rw [Nat.zero_add] at h1
    rw [h1, List.getElem?_eq_getElem hj]
  · rw [List.getElem?_eq_none (by rw [setsFrom_len]; omega), List.getElem?_eq_none (by omega)]
theorem ResAt.put {w : World} {B k : Nat} (h : ResAt w B k) {vs : List Value} (hk : vs.length = k) : BoxF (putCs w B 0 vs) B vs := by
  obtain ⟨cs, hl, hc⟩ := h
  have := BoxF.putCs vs 0 w cs hc (by omega)
  rwa [setsFrom_all (by omega)] at this
theorem Touch.putCs {lo hi B : Nat} (h1 : lo ≤ B) (h2 : B < hi) : ∀ (vs : List Value) (o : Nat) (a w : World), Touch lo hi a w → Touch lo hi a (Go.Proofs.YteciobkjfmddcaaGreatDoor.putCs w B o vs)
  | [], _, _, _, h => h
  | v :: vs, o, a, w, h => Touch.putCs h1 h2 vs (o + 1) a _ (h.setCell ⟨B, o, none⟩ v h1 h2)
theorem Below.putCs {C B : Nat} (h1 : C ≤ B) : ∀ (vs : List Value) (o : Nat) (a w : World), Below C a w → Below C a (Go.Proofs.YteciobkjfmddcaaGreatDoor.putCs w B o vs)
  | [], _, _, _, h => h
  | v :: vs, o, a, w, h => Below.putCs h1 vs (o + 1) a _ (h.setCell (p := ⟨B, o, none⟩) h1 v)
theorem BoxF.of_put {w : World} {B : Nat} {cs : List Value} (h : BoxF w B cs) : ResAt w B cs.length := ⟨cs, rfl, h⟩
end Go.Proofs.YteciobkjfmddcaaGreatDoor
set_option linter.unusedVariables false
namespace Go.Proofs.YteciobkjfmddcaaGreatDoor
open Go.RowKit

theorem step_cloneI {P : Program} (w : World) {ops : Array Oper} {o : Oper} {a : Act} {K : Act → World → Prop} {Q : Exit → Act → World → Prop} {E : Prop} (hgd : o.guard = none) (s x : Operand) (t : TypeId)
    (ho : o.op = .call { callee := .builtin .append, args := #[s, x], argTypes := #[t, t] })
    (base : Nat) (e : TypeId) (i : TypeInfo) (ht : P.underlying t = some (.slice e)) (hi : P.info? e = some i) (hz : i.zero = some (.int .i64 0)) (hsize : i.size = 1) (hby : i.bytes = 8)
    (D : Nat) (hs : a.eval s = .slice (some ⟨D, 0, none⟩) 0 0) (hown : w.ownsRow base e 1 (.slice (some ⟨D, 0, none⟩) 0 0) 0 [])
    (v : Value) (m : Nat) (g : Nat → Int) (hx : a.eval x = v) (hrow : IntRow w v m g) (h0 : 0 < m) (hm : m ≤ 1048576) (hbase : base ≤ D) (hD : D < w.heap.size)
    (h : ∀ gg cap w', w'.ownsRow base e 1 (.slice (some ⟨gg, 0, none⟩) m cap) m ((List.range m).map fun j => Value.int .i64 (g j)) → w.grownBy w' (some D) → K (a.put o.dst (.slice (some ⟨gg, 0, none⟩) m cap)) w') :
    if Region.wanted o (yielded ops a.tmps) = true then Oper.wp P o a w K Q else E := by
  rcases hrow with ⟨_, _, _, h1⟩ | ⟨b, off, c, rfl, _, _, hc, _⟩
  · omega
  refine step_append_lies w hgd s x t ho base e i (.int .i64 0) 1 8 ht hi hz hsize hby rfl (by decide) (.slice (some ⟨D, 0, none⟩) 0 0) 0 [] hs hown ⟨b, off, none⟩ m c ((List.range m).map fun j => Value.int .i64 (g j)) hx (by simp) ?_
    (by intro u hu; simp only [List.mem_map] at hu; obtain ⟨_, _, rfl⟩ := hu; rfl) h0 (by unfold maxLen; omega) (by omega) (by omega) _ rfl ?_
  · intro j u hu
    simp only [List.getElem?_map] at hu
    by_cases hj : j < m
    · rw [List.getElem?_range hj] at hu
      simp only [Option.map_some, Option.some.injEq] at hu
      subst hu
      have hadd : (⟨b, off, none⟩ : Addr).add j = ⟨b, off + j, none⟩ := by unfold Addr.add; split <;> simp_all
      rw [hadd]
      exact hc j hj
    · rw [List.getElem?_eq_none (by simp; omega)] at hu; cases hu
  · intro gg cap w' ho' hg' hat hlt
    simp only [Nat.zero_add, List.nil_append] at ho' ⊢
    exact h gg cap w' ho' hg'
end Go.Proofs.YteciobkjfmddcaaGreatDoor
set_option linter.unusedVariables false
namespace Go.Proofs.YteciobkjfmddcaaGreatDoor
open Go.RowKit

theorem IntRow.rec {w : World} {v : Value} {n : Nat} {g : Nat → Int} (h : IntRow w v n g) : RecRow 1 w v n fun i => [.int .i64 (g i)] := by
  rcases h with ⟨a, c, rfl, rfl⟩ | ⟨b, off, c, rfl, h0, h1, hc, h2⟩
  · exact .inl ⟨_, _, rfl, rfl⟩
  · refine .inr ⟨b, off, c, rfl, h0, h1, fun i hi => ⟨World.block_lt_of_cell? w _ (hc i hi), fun j u hu => ?_⟩, h2⟩
    cases j with
    | zero =>
      simp only [List.getElem?_cons_zero, Option.some.injEq] at hu
      subst hu
      rw [Nat.mul_one, Nat.add_zero]
      exact hc i hi
    | succ j => simp at hu
theorem RecRow.ints {w : World} {v : Value} {n : Nat} {g : Nat → Int} (h : RecRow 1 w v n fun i => [.int .i64 (g i)]) : IntRow w v n g := by
  rcases h with ⟨a, c, rfl, rfl⟩ | ⟨b, off, c, rfl, h0, h1, hc, h2⟩
  · exact .inl ⟨_, _, rfl, rfl⟩
  · exact .inr ⟨b, off, c, rfl, h0, h1, fun i hi => by have := (hc i hi).2 0 _ rfl; simpa using this, h2⟩
end Go.Proofs.YteciobkjfmddcaaGreatDoor
set_option linter.unusedVariables false
namespace Go.Proofs.YteciobkjfmddcaaGreatDoor
open Go.RowKit

theorem TeamRow.rec {w : World} {v : Value} {n : Nat} {g : Nat → TeamD} (h : TeamRow w v n g) : RecRow 3 w v n fun i => (g i).cells := by
  rcases h with ⟨a, c, rfl, rfl⟩ | ⟨b, off, c, rfl, h0, h1, hc, h2⟩
  · exact .inl ⟨_, _, rfl, rfl⟩
  · refine .inr ⟨b, off, c, rfl, h0, h1, fun i hi => ⟨World.block_lt_of_cell? w _ (hc i hi).1, fun j u hu => ?_⟩, h2⟩
    have hj : j < 3 := by have := (List.getElem?_eq_some_iff.1 hu).1; simpa [TeamD.cells] using this
    have : j = 0 ∨ j = 1 ∨ j = 2 := by omega
    rcases this with rfl | rfl | rfl <;> (simp [TeamD.cells] at hu; subst hu)
    · exact (hc i hi).1
    · exact (hc i hi).2.1
    · exact (hc i hi).2.2
theorem RecRow.teams {w : World} {v : Value} {n : Nat} {g : Nat → TeamD} (h : RecRow 3 w v n fun i => (g i).cells) : TeamRow w v n g := by
  rcases h with ⟨a, c, rfl, rfl⟩ | ⟨b, off, c, rfl, h0, h1, hc, h2⟩
  · exact .inl ⟨_, _, rfl, rfl⟩
  · exact .inr ⟨b, off, c, rfl, h0, h1, fun i hi => ⟨(hc i hi).2 0 _ rfl, (hc i hi).2 1 _ rfl, (hc i hi).2 2 _ rfl⟩, h2⟩
end Go.Proofs.YteciobkjfmddcaaGreatDoor
set_option linter.unusedVariables false
namespace Go.Proofs.YteciobkjfmddcaaGreatDoor
open Go.RowKit

structure NoteD where
  serial : Int
  game : Int
  res : GameD
instance : Inhabited NoteD := ⟨⟨0, 0, ⟨0, 0, 0, 0, 0⟩⟩⟩
def NoteD.cells (t : NoteD) : List Value := [.int .i64 t.serial, .int .i64 t.game, .int .i64 t.res.home, .int .i64 t.res.away, .int .i64 t.res.hg, .int .i64 t.res.ag, .int .i64 t.res.st]
def NoteD.val (t : NoteD) : Value := .agg #[.int .i64 t.serial, .int .i64 t.game, .int .i64 t.res.home, .int .i64 t.res.away, .int .i64 t.res.hg, .int .i64 t.res.ag, .int .i64 t.res.st]
def NoteD.fit (t : NoteD) : Prop := IntFit t.serial ∧ IntFit t.game ∧ IntFit t.res.home ∧ IntFit t.res.away ∧ IntFit t.res.hg ∧ IntFit t.res.ag ∧ IntFit t.res.st
theorem NoteD.len (t : NoteD) : t.cells.length = 7 := rfl
def NoteRow (w : World) (v : Value) (n : Nat) (g : Nat → NoteD) : Prop := RecRow 7 w v n fun i => (g i).cells
theorem NoteRow.below {w w' : World} {B : Nat} {v : Value} {n : Nat} {g : Nat → NoteD} (h : NoteRow w v n g) (hb : Below B w w') (hB : w.heap.size ≤ B) : NoteRow w' v n g := RecRow.below h hb hB
theorem NoteRow.touch {lo hi lo' hi' : Nat} {w w' : World} {v : Value} {n : Nat} {g : Nat → NoteD} (h : NoteRow w v n g) (t : Touch lo hi w w') (hv : 0 < n → InW lo' hi' v) (ho : hi' ≤ lo ∨ hi ≤ lo') : NoteRow w' v n g := RecRow.touch h t hv ho
theorem NoteRow.form {w : World} {v : Value} {n : Nat} {g : Nat → NoteD} (h : NoteRow w v n g) : ∃ a cap, v = .slice a n cap ∧ n ≤ 9223372036854775807 ∧ (0 < n → ∃ b off, a = some ⟨b, off, none⟩ ∧ n ≤ cap ∧ ∀ i, i < n → CellsAt w b (off + i * 7) (g i).cells) := RecRow.form h
theorem InW.noteRow {hi : Nat} {v : Value} {w : World} {n : Nat} {g : Nat → NoteD} (h : NoteRow w v n g) (h0 : 0 < n) (hs : w.heap.size ≤ hi) : InW 0 hi v := RecRow.inw h h0 hs
theorem NoteRow.of_owns {w : World} {base : Nat} {e : TypeId} {v : Value} {n : Nat} {xs : List Value} {g : Nat → NoteD} (h : w.ownsRow base e 7 v n xs) (hn : n ≤ 9223372036854775807) (hg : RecCells 7 n xs fun i => (g i).cells) : NoteRow w v n g := RecRow.of_owns h hn hg fun _ _ => Nat.le_refl _
def noteMk (k : Int) (i : Nat) : NoteD := ⟨k + 7 * (i : Int), k + 7 * (i : Int) + 1, ⟨k + 7 * (i : Int) + 1 + 1, k + 7 * (i : Int) + 1 + 1 + 1, k + 7 * (i : Int) + 1 + 1 + 1 + 1, k + 7 * (i : Int) + 1 + 1 + 1 + 1 + 1, k + 7 * (i : Int) + 1 + 1 + 1 + 1 + 1 + 1⟩⟩
theorem tgrownNote {a b c : World} {row : Option Nat} (h : a.grownBy b row) (k : b.grownBy c row) : a.grownBy c row :=
  ⟨k.os.trans h.os, k.tape.trans h.tape, k.output.trans h.output, Nat.le_trans h.size k.size, fun i hi hne => (k.block i (Nat.lt_of_lt_of_le hi h.size) hne).trans (h.block i hi hne)⟩
section
open Go.ChangeShapes Go.WideShapes
variable {H : Type} {enc : TypeId × Value → H} {P : Program} {w : World} {base : Nat} {spare : Nat → Bool} {held : Bool}
theorem open_notes {t e : TypeId} {f0 f1 f2 : Field} {v : Value} (ht : P.underlying t = some (.slice e)) (he : P.underlying e = some (.struct #[f0, f1, f2]))
    (ce : P.cellsOf e = 7) (o0 : f0.offset = 0) (c0 : P.cellsOf f0.type = 1) (u0 : P.underlying f0.type = some (.int .i64)) (o1 : f1.offset = 1) (c1 : P.cellsOf f1.type = 1) (u1 : P.underlying f1.type = some (.int .i64)) (o2 : f2.offset = 2) (c2 : P.cellsOf f2.type = 5) {s0 s1 s2 s3 s4 : Field} (u2 : P.underlying f2.type = some (.struct #[s0, s1, s2, s3, s4])) (so0 : s0.offset = 0) (sc0 : P.cellsOf s0.type = 1) (su0 : P.underlying s0.type = some (.int .i64)) (so1 : s1.offset = 1) (sc1 : P.cellsOf s1.type = 1) (su1 : P.underlying s1.type = some (.int .i64)) (so2 : s2.offset = 2) (sc2 : P.cellsOf s2.type = 1) (su2 : P.underlying s2.type = some (.int .i64)) (so3 : s3.offset = 3) (sc3 : P.cellsOf s3.type = 1) (su3 : P.underlying s3.type = some (.int .i64)) (so4 : s4.offset = 4) (sc4 : P.cellsOf s4.type = 1) (su4 : P.underlying s4.type = some (.int .i64))
    (h : ∃ (fuel : Nat) (x : DataW H × List MemPlace), DataW.trod enc P w base spare held fuel t [v] = some x) : ∃ (n : Nat) (g : Nat → NoteD), NoteRow w v n g ∧ (∀ i, (g i).fit) ∧ n ≤ 9223372036854775807 := by
  obtain ⟨fuel, x, h⟩ := h
  have hz : (default : NoteD).fit := by simp [NoteD.fit, IntFit, default]
  rcases Go.Deep.open_slice ht h with ⟨h0, _⟩ | ⟨a, len, cap, m, q, D, Pl, h0, hb, hl, hm, hmm, rfl, hx⟩
  · simp only [List.cons.injEq, and_true] at h0
    subst h0
    exact ⟨0, fun _ => default, .inl ⟨_, _, rfl, rfl⟩, fun _ => hz, by omega⟩
  simp only [List.cons.injEq, and_true] at h0
  subst h0
  have hlm : len ≤ m := by rw [hmm]; split <;> omega
  have each : ∀ i, i < len → ∃ q : NoteD, (∀ j u, q.cells[j]? = some u → w.cell? ((a.add (i * 7)).add j) = some u) ∧ q.fit := by
    intro i hi
    obtain ⟨cs', h1, h2⟩ := hx i (by omega)
    rw [ce] at h1
    obtain ⟨_, hlen, hcell⟩ := World.cells?_some h1
    obtain ⟨xs, kk, hk, hxy, _, hxl, hf⟩ := DataW.trod_struct he h2
    match xs, hxl, cs', hlen with
    | [y0, y1, y2], _, [v0, v1, v2, v3, v4, v5, v6], _ =>
      have g0 := hf 0 f0 rfl
      simp [o0, c0] at g0
      obtain ⟨z0, e0, _, k0⟩ := DataW.trod_int u0 g0
      simp only [List.cons.injEq, and_true] at e0
      subst e0
      have g1 := hf 1 f1 rfl
      simp [o1, c1] at g1
      obtain ⟨z1, e1, _, k1⟩ := DataW.trod_int u1 g1
      simp only [List.cons.injEq, and_true] at e1
      subst e1
      have g2 := hf 2 f2 rfl
      simp [o2, c2] at g2
      obtain ⟨ys, k2', hk', hxy', _, hyl, hf'⟩ := DataW.trod_struct u2 g2
      match ys, hyl with
      | [w0, w1, w2, w3, w4], _ =>
      have h0 := hf' 0 s0 rfl
      simp [so0, sc0] at h0
      obtain ⟨z2, e2', _, k2⟩ := DataW.trod_int su0 h0
      simp only [List.cons.injEq, and_true] at e2'
      subst e2'
      have h1 := hf' 1 s1 rfl
      simp [so1, sc1] at h1
      obtain ⟨z3, e3', _, k3⟩ := DataW.trod_int su1 h1
      simp only [List.cons.injEq, and_true] at e3'
      subst e3'
      have h2 := hf' 2 s2 rfl
      simp [so2, sc2] at h2
      obtain ⟨z4, e4', _, k4⟩ := DataW.trod_int su2 h2
      simp only [List.cons.injEq, and_true] at e4'
      subst e4'
      have h3 := hf' 3 s3 rfl
      simp [so3, sc3] at h3
      obtain ⟨z5, e5', _, k5⟩ := DataW.trod_int su3 h3
      simp only [List.cons.injEq, and_true] at e5'
      subst e5'
      have h4 := hf' 4 s4 rfl
      simp [so4, sc4] at h4
      obtain ⟨z6, e6', _, k6⟩ := DataW.trod_int su4 h4
      simp only [List.cons.injEq, and_true] at e6'
      subst e6'
      refine ⟨⟨z0, z1, ⟨z2, z3, z4, z5, z6⟩⟩, fun j u hu => ?_, ⟨intFit_of k0, intFit_of k1, intFit_of k2, intFit_of k3, intFit_of k4, intFit_of k5, intFit_of k6⟩⟩
      have hj : j < 7 := (List.getElem?_eq_some_iff.1 hu).1
      rw [hcell j hj]
      exact hu
  obtain ⟨g, hg⟩ := Go.Deep.choose_lt each
  have hfit : ∀ i, (if i < len then g i else default : NoteD).fit := fun i => by
    by_cases hi : i < len
    · simpa [hi] using (hg i hi).2
    · simpa [hi] using hz
  unfold maxLen at hm
  refine ⟨len, fun i => if i < len then g i else default, ?_, hfit, by omega⟩
  by_cases h0 : len = 0
  · subst h0; exact .inl ⟨_, _, rfl, rfl⟩
  · have hc0 := (hg 0 (by omega)).1 0 _ rfl
    obtain ⟨b, off, spot⟩ := a
    have hspot : spot = none := by simpa [Addr.add] using World.cell?_spot hc0
    subst hspot
    have hadd : ∀ j, (⟨b, off, none⟩ : Addr).add j = ⟨b, off + j, none⟩ := fun j => by unfold Addr.add; split <;> simp_all
    have hadd2 : ∀ o j, (⟨b, o, none⟩ : Addr).add j = ⟨b, o + j, none⟩ := fun o j => by unfold Addr.add; split <;> simp_all
    simp only [hadd, hadd2] at hc0
    refine .inr ⟨b, off, cap, rfl, by omega, by omega, fun i hi => ⟨World.block_lt_of_cell? w _ hc0, fun j u hu => ?_⟩, hl⟩
    have := (hg i hi).1
    simp only [hadd, hadd2] at this
    simp only [hi, if_true] at hu
    exact this j u hu
end
section
open Go.ChangeShapes Go.WideShapes
variable {H : Type} {enc : TypeId × Value → H} {P : Program} {w : World} {base : Nat} {spare : Nat → Bool} {held : Bool}
theorem open_note {r : Reach} {b0 : Nat} {e : TypeId} {f0 f1 f2 : Field} {v : Value} {d : DataW H} {pl : List MemPlace} (he : P.underlying e = some (.struct #[f0, f1, f2]))
    (ce : P.cellsOf e = 7) (o0 : f0.offset = 0) (c0 : P.cellsOf f0.type = 1) (u0 : P.underlying f0.type = some (.int .i64)) (o1 : f1.offset = 1) (c1 : P.cellsOf f1.type = 1) (u1 : P.underlying f1.type = some (.int .i64)) (o2 : f2.offset = 2) (c2 : P.cellsOf f2.type = 5) {s0 s1 s2 s3 s4 : Field} (u2 : P.underlying f2.type = some (.struct #[s0, s1, s2, s3, s4])) (so0 : s0.offset = 0) (sc0 : P.cellsOf s0.type = 1) (su0 : P.underlying s0.type = some (.int .i64)) (so1 : s1.offset = 1) (sc1 : P.cellsOf s1.type = 1) (su1 : P.underlying s1.type = some (.int .i64)) (so2 : s2.offset = 2) (sc2 : P.cellsOf s2.type = 1) (su2 : P.underlying s2.type = some (.int .i64)) (so3 : s3.offset = 3) (sc3 : P.cellsOf s3.type = 1) (su3 : P.underlying s3.type = some (.int .i64)) (so4 : s4.offset = 4) (sc4 : P.cellsOf s4.type = 1) (su4 : P.underlying s4.type = some (.int .i64))
    (hv : Value.okWide P w r b0 e v) (h : DataW.Trod enc P w base spare held e v d pl) : ∃ q : NoteD, v = q.val ∧ q.fit := by
  obtain ⟨cs, rfl, hsz⟩ := okWide_struct he hv
  obtain ⟨l⟩ := cs
  obtain ⟨fuel, h⟩ := h
  obtain ⟨xs, kk, hk, hxy, _, hxl, hf⟩ := DataW.trod_struct he h
  match xs, hxl, l, hsz.trans ce with
  | [y0, y1, y2], _, [v0, v1, v2, v3, v4, v5, v6], _ =>
      have g0 := hf 0 f0 rfl
      simp [Value.cells, o0, c0] at g0
      obtain ⟨z0, e0, _, k0⟩ := DataW.trod_int u0 g0
      simp only [List.cons.injEq, and_true] at e0
      subst e0
      have g1 := hf 1 f1 rfl
      simp [Value.cells, o1, c1] at g1
      obtain ⟨z1, e1, _, k1⟩ := DataW.trod_int u1 g1
      simp only [List.cons.injEq, and_true] at e1
      subst e1
      have g2 := hf 2 f2 rfl
      simp [Value.cells, o2, c2] at g2
      obtain ⟨ys, k2', hk', hxy', _, hyl, hf'⟩ := DataW.trod_struct u2 g2
      match ys, hyl with
      | [w0, w1, w2, w3, w4], _ =>
      have h0 := hf' 0 s0 rfl
      simp [so0, sc0] at h0
      obtain ⟨z2, e2', _, k2⟩ := DataW.trod_int su0 h0
      simp only [List.cons.injEq, and_true] at e2'
      subst e2'
      have h1 := hf' 1 s1 rfl
      simp [so1, sc1] at h1
      obtain ⟨z3, e3', _, k3⟩ := DataW.trod_int su1 h1
      simp only [List.cons.injEq, and_true] at e3'
      subst e3'
      have h2 := hf' 2 s2 rfl
      simp [so2, sc2] at h2
      obtain ⟨z4, e4', _, k4⟩ := DataW.trod_int su2 h2
      simp only [List.cons.injEq, and_true] at e4'
      subst e4'
      have h3 := hf' 3 s3 rfl
      simp [so3, sc3] at h3
      obtain ⟨z5, e5', _, k5⟩ := DataW.trod_int su3 h3
      simp only [List.cons.injEq, and_true] at e5'
      subst e5'
      have h4 := hf' 4 s4 rfl
      simp [so4, sc4] at h4
      obtain ⟨z6, e6', _, k6⟩ := DataW.trod_int su4 h4
      simp only [List.cons.injEq, and_true] at e6'
      subst e6'
      exact ⟨⟨z0, z1, ⟨z2, z3, z4, z5, z6⟩⟩, rfl, ⟨intFit_of k0, intFit_of k1, intFit_of k2, intFit_of k3, intFit_of k4, intFit_of k5, intFit_of k6⟩⟩
end
end Go.Proofs.YteciobkjfmddcaaGreatDoor
set_option linter.unusedVariables false
namespace Go.Proofs.YteciobkjfmddcaaGreatDoor
open Go.RowKit

theorem note_cells {w : World} {b o : Nat} {x : NoteD} (h : CellsAt w b o x.cells) : w.cell? ⟨b, o, none⟩ = some (.int .i64 x.serial) ∧ w.cell? ⟨b, o + 1, none⟩ = some (.int .i64 x.game) ∧ w.cell? ⟨b, o + 2, none⟩ = some (.int .i64 x.res.home) ∧
    w.cell? ⟨b, o + 3, none⟩ = some (.int .i64 x.res.away) ∧ w.cell? ⟨b, o + 4, none⟩ = some (.int .i64 x.res.hg) ∧ w.cell? ⟨b, o + 5, none⟩ = some (.int .i64 x.res.ag) ∧ w.cell? ⟨b, o + 6, none⟩ = some (.int .i64 x.res.st) :=
  ⟨h.2 0 _ rfl, h.2 1 _ rfl, h.2 2 _ rfl, h.2 3 _ rfl, h.2 4 _ rfl, h.2 5 _ rfl, h.2 6 _ rfl⟩
def serialN (g : Nat → NoteD) (gm : Int) : Nat → Int
  | 0 => 0
  | k + 1 => if (g k).game = gm ∧ serialN g gm k < (g k).serial then (g k).serial else serialN g gm k
end Go.Proofs.YteciobkjfmddcaaGreatDoor
set_option linter.unusedVariables false
namespace Go.Proofs.YteciobkjfmddcaaGreatDoor
open Go.RowKit

def noteP (n : Int) (m : Nat) (g : Nat → GameD) (x : NoteD) : Prop :=
  (1 ≤ x.serial ∧ x.serial ≤ 100000) ∧ (0 ≤ x.game ∧ x.game ≤ (m : Int) - 1) ∧ gameP n x.res ∧ x.res.st ≠ 0 ∧ x.res.home = (g x.game.toNat).home ∧ x.res.away = (g x.game.toNat).away
end Go.Proofs.YteciobkjfmddcaaGreatDoor
set_option linter.unusedVariables false
namespace Go.Proofs.YteciobkjfmddcaaGreatDoor
open Go.RowKit

theorem note_ne {x y : NoteD} (h : x ≠ y) : (x.serial == y.serial) = false ∨ (x.game == y.game) = false ∨ (x.res.home == y.res.home) = false ∨ (x.res.away == y.res.away) = false ∨ (x.res.hg == y.res.hg) = false ∨ (x.res.ag == y.res.ag) = false ∨ (x.res.st == y.res.st) = false := by
  obtain ⟨a1, a2, ⟨a3, a4, a5, a6, a7⟩⟩ := x
  obtain ⟨b1, b2, ⟨b3, b4, b5, b6, b7⟩⟩ := y
  simp only [beq_eq_false_iff_ne, ne_eq, NoteD.mk.injEq, GameD.mk.injEq] at h ⊢
  omega
end Go.Proofs.YteciobkjfmddcaaGreatDoor
set_option linter.unusedVariables false
namespace Go.Proofs.YteciobkjfmddcaaGreatDoor
open Go.RowKit

def notesP (n : Int) (m : Nat) (g : Nat → GameD) (k : Nat) (ns : Nat → NoteD) : Prop :=
  seasonP n m g ∧ k ≤ 80 ∧ ∀ i, i < k → noteP n m g (ns i) ∧ ∀ j, j < i → (ns j).serial = (ns i).serial → ns j = ns i
end Go.Proofs.YteciobkjfmddcaaGreatDoor
set_option linter.unusedVariables false
namespace Go.Proofs.YteciobkjfmddcaaGreatDoor
open Go.RowKit

def getN' (L : List NoteD) (i : Nat) : NoteD := L.getD i default
theorem flat_len (L : List NoteD) : (L.flatMap NoteD.cells).length = L.length * 7 := by
  induction L with
  | nil => rfl
  | cons x L ih => simp only [List.flatMap_cons, List.length_append, ih, List.length_cons, NoteD.len]; omega
theorem notes_cells (L : List NoteD) : RecCells 7 L.length (L.flatMap NoteD.cells) fun i => (getN' L i).cells := by
  induction L with
  | nil => exact RecCells.nil
  | cons x L ih =>
    intro i hi j u hu
    rw [List.flatMap_cons]
    have hj : j < 7 := by have := (List.getElem?_eq_some_iff.1 hu).1; simpa [NoteD.len] using this
    cases i with
    | zero =>
      rw [List.getElem?_append_left (by rw [NoteD.len]; omega)]
      simpa [getN'] using hu
    | succ i =>
      rw [List.getElem?_append_right (by rw [NoteD.len]; omega), NoteD.len, show (i + 1) * 7 + j - 7 = i * 7 + j by omega]
      simp only [List.length_cons] at hi
      exact ih i (by omega) j u (by simpa [getN'] using hu)
def upL (g : Nat → NoteD) (s : Int) : Nat → List NoteD
  | 0 => []
  | k + 1 => if (g k).serial ≤ s then upL g s k ++ [g k] else upL g s k
def seenL (g : Nat → NoteD) (gm : Int) : Nat → List Int
  | 0 => []
  | k + 1 => if (g k).game = gm ∧ ¬ (g k).serial ∈ seenL g gm k then seenL g gm k ++ [(g k).serial] else seenL g gm k
def corrN (g : Nat → NoteD) (gm : Int) (n : Nat) : Int := if 0 < ((seenL g gm n).length : Int) - 1 then ((seenL g gm n).length : Int) - 1 else 0
end Go.Proofs.YteciobkjfmddcaaGreatDoor
set_option linter.unusedVariables false
namespace Go.Proofs.YteciobkjfmddcaaGreatDoor
open Go.RowKit

def leadN (s : Int) : List NoteD → Nat
  | [] => 0
  | y :: L => if y.serial < s then leadN s L + 1 else 0
def insN (L : List NoteD) (x : NoteD) : List NoteD :=
  if leadN x.serial L < L.length ∧ (getN' L (leadN x.serial L)).serial = x.serial then L else L.take (leadN x.serial L) ++ x :: L.drop (leadN x.serial L)
def canonL (g : Nat → NoteD) : Nat → List NoteD
  | 0 => []
  | k + 1 => insN (canonL g k) (g k)
theorem lead_le (s : Int) (L : List NoteD) : leadN s L ≤ L.length := by
  induction L with
  | nil => exact Nat.le_refl _
  | cons y L ih => unfold leadN; split <;> simp <;> omega
theorem lead_lt (s : Int) (L : List NoteD) : ∀ i, i < leadN s L → (getN' L i).serial < s := by
  induction L with
  | nil => intro i hi; exact absurd hi (by simp [leadN])
  | cons y L ih =>
    intro i hi
    unfold leadN at hi
    split at hi
    · next h =>
      cases i with
      | zero => exact h
      | succ i => exact ih i (by omega)
    · omega
theorem lead_ge (s : Int) (L : List NoteD) : leadN s L < L.length → ¬ (getN' L (leadN s L)).serial < s := by
  induction L with
  | nil => intro h; exact absurd h (by simp)
  | cons y L ih =>
    intro h
    unfold leadN at h ⊢
    split at h
    · next hy => rw [if_pos hy]; exact ih (by simpa using h)
    · next hy => rw [if_neg hy]; exact hy
theorem ins_len (L : List NoteD) (x : NoteD) : (insN L x).length ≤ L.length + 1 := by
  unfold insN
  split
  · omega
  · have := lead_le x.serial L; simp; omega
def gapL (L : List NoteD) (j : Nat) (u : NoteD) : List NoteD := L.take j ++ u :: L.drop j
theorem gap_len (L : List NoteD) (j : Nat) (u : NoteD) (h : j ≤ L.length) : (gapL L j u).length = L.length + 1 := by
  unfold gapL; simp; omega
theorem gap_get (L : List NoteD) (j : Nat) (u : NoteD) (i : Nat) (h : i < j) (hj : j ≤ L.length) : getN' (gapL L j u) i = getN' L i := by
  unfold gapL getN'
  simp only [List.getD_eq_getElem?_getD]
  rw [List.getElem?_append_left (by simp; omega), List.getElem?_take_of_lt h]
theorem gap_set (L : List NoteD) (j : Nat) (u x : NoteD) (hj : j ≤ L.length) : (gapL L j u).set j x = gapL L j x := by
  unfold gapL
  rw [List.set_append_right _ _ (by simp; omega)]
  simp [Nat.min_eq_left hj]
theorem gap_step (L : List NoteD) (j : Nat) (hj : j < L.length) : gapL L (j + 1) (getN' L j) = gapL L j (getN' L j) := by
  unfold gapL
  have h1 : getN' L j = L[j] := by simp [getN', List.getD_eq_getElem?_getD, List.getElem?_eq_getElem hj]
  have h2 : L.take (j + 1) = L.take j ++ [L[j]] := (List.take_append_getElem hj).symm
  rw [h1, h2, List.drop_eq_getElem_cons hj]
  simp only [List.append_assoc, List.cons_append, List.nil_append]
theorem gap_end (L : List NoteD) (u : NoteD) : gapL L L.length u = L ++ [u] := by
  unfold gapL; simp
theorem flat_set (x : NoteD) : ∀ (M : List NoteD) (j : Nat), j < M.length → setsFrom (M.flatMap NoteD.cells) (j * 7) x.cells = (M.set j x).flatMap NoteD.cells := by
  intro M j hj
  apply List.ext_getElem?
  intro t
  have hlen := flat_len M
  have hlen2 := flat_len (M.set j x)
  rw [List.length_set] at hlen2
  by_cases ht : t < M.length * 7
  · have h1 := notes_cells M (t / 7) (by omega) (t % 7)
    have h2 := notes_cells (M.set j x) (t / 7) (by rw [List.length_set]; omega) (t % 7)
    have ht7 : t / 7 * 7 + t % 7 = t := by omega
    rw [ht7] at h1 h2
    by_cases hjt : t / 7 = j
    · have hx : (getN' (M.set j x) (t / 7)) = x := by simp [getN', List.getD_eq_getElem?_getD, hjt, hj]
      have hm : t % 7 < x.cells.length := by rw [NoteD.len]; omega
      obtain ⟨u, hu⟩ : ∃ u, x.cells[t % 7]? = some u := ⟨_, List.getElem?_eq_getElem hm⟩
      rw [h2 u (by simp only [hx]; exact hu), show t = j * 7 + t % 7 by omega]
      exact setsFrom_in x.cells _ _ _ u (by rw [NoteD.len]; omega) hu
    · have hx : (getN' (M.set j x) (t / 7)) = getN' M (t / 7) := by
        simp only [getN', List.getD_eq_getElem?_getD]
        rw [List.getElem?_set_ne (by omega)]
      have hm : t % 7 < (getN' M (t / 7)).cells.length := by rw [NoteD.len]; omega
      obtain ⟨u, hu⟩ : ∃ u, (getN' M (t / 7)).cells[t % 7]? = some u := ⟨_, List.getElem?_eq_getElem hm⟩
      rw [h2 u (by simp only [hx]; exact hu), setsFrom_out _ _ _ _ (by rw [NoteD.len]; omega)]
      exact h1 u hu
  · rw [List.getElem?_eq_none (by rw [setsFrom_len]; omega), List.getElem?_eq_none (by omega)]
theorem canon_len (g : Nat → NoteD) : ∀ n, (canonL g n).length ≤ n := by
  intro n
  induction n with
  | zero => simp [canonL]
  | succ n ih => have := ins_len (canonL g n) (g n); show (insN _ _).length ≤ _; omega
theorem up_len (g : Nat → NoteD) (s : Int) : ∀ n, (upL g s n).length ≤ n := by
  intro n
  induction n with
  | zero => simp [upL]
  | succ n ih =>
    unfold upL
    split
    · simp only [List.length_append, List.length_cons, List.length_nil]; omega
    · omega
end Go.Proofs.YteciobkjfmddcaaGreatDoor
set_option linter.unusedVariables false
namespace Go.Proofs.YteciobkjfmddcaaGreatDoor
open Go.RowKit

theorem box_set {w : World} {D gg s : Nat} {cs : List Value} {u : Value} (h : BoxN w D cs) (hne : gg ≠ D) : BoxN (w.setCell ⟨gg, s, none⟩ u) D cs := by
  by_cases hlt : gg < D
  · exact h.touch (Touch.setCell (lo := 0) (hi := D) (Touch.refl _ _ _) ⟨gg, s, none⟩ u (Nat.zero_le _) hlt) (Or.inr (Nat.le_refl _))
  · exact h.touch (Touch.setCell (lo := D + 1) (hi := gg + 1) (Touch.refl _ _ _) ⟨gg, s, none⟩ u (show D + 1 ≤ gg by omega) (Nat.lt_succ_self _)) (Or.inl (Nat.lt_succ_self _))
end Go.Proofs.YteciobkjfmddcaaGreatDoor
set_option linter.unusedVariables false
namespace Go.Proofs.YteciobkjfmddcaaGreatDoor
open Go.RowKit

def applyN (g : Nat → GameD) (C : List NoteD) : Nat → Nat → GameD
  | 0 => g
  | j + 1 => fun i => if i = (getN' C j).game.toNat then (getN' C j).res else applyN g C j i
theorem ins_mem (L : List NoteD) (x y : NoteD) (h : y ∈ insN L x) : y ∈ L ∨ y = x := by
  unfold insN at h
  split at h
  · exact .inl h
  · rcases List.mem_append.1 h with h | h
    · exact .inl (List.mem_of_mem_take h)
    · rcases List.mem_cons.1 h with h | h
      · exact .inr h
      · exact .inl (List.mem_of_mem_drop h)
theorem canon_mem (g : Nat → NoteD) (y : NoteD) : ∀ n, y ∈ canonL g n → ∃ i, i < n ∧ g i = y := by
  intro n
  induction n with
  | zero => intro h; simp [canonL] at h
  | succ n ih =>
    intro h
    rcases ins_mem _ _ _ (show y ∈ insN (canonL g n) (g n) from h) with h | h
    · obtain ⟨i, hi, he⟩ := ih h; exact ⟨i, by omega, he⟩
    · exact ⟨n, by omega, h.symm⟩
theorem getN_mem (L : List NoteD) (j : Nat) (h : j < L.length) : getN' L j ∈ L := by
  unfold getN'
  rw [List.getD_eq_getElem?_getD, List.getElem?_eq_getElem h]
  exact List.getElem_mem h
theorem GameD.ones (x : GameD) : ∀ u ∈ x.cells, u.oneCell' = true := by
  intro u hu; simp [GameD.cells] at hu; rcases hu with rfl | rfl | rfl | rfl | rfl <;> rfl
end Go.Proofs.YteciobkjfmddcaaGreatDoor
set_option linter.unusedVariables false
namespace Go.Proofs.YteciobkjfmddcaaGreatDoor
open Go.RowKit

theorem owns_low {w : World} {base : Nat} {e : TypeId} {size n : Nat} {v : Value} {xs : List Value} (h : w.ownsRow base e size v n xs) {B : Nat} (j : Nat) (u : Value) (hB : B < base) : (w.setCell ⟨B, j, none⟩ u).ownsRow base e size v n xs :=
  ownsRow_setCell_other h (fun e => by have := (h.lt B e).1; omega) u
def BookMem (w : World) (base : Nat) (vf vl vg vfa vta : Value) (b : BookD) : Prop :=
  w.ownsRow base 90 3 vf b.nf (flatR (fun i => (b.f i).cells) b.nf) ∧ w.ownsRow base 3 1 vl b.nl (flatR (fun i => [.int .i64 (b.l i)]) b.nl) ∧ w.ownsRow base 93 5 vg b.m (flatR (fun i => (b.g i).cells) b.m) ∧
    w.ownsRow base 3 1 vfa b.nfa (flatR (fun i => [.int .i64 (b.fa i)]) b.nfa) ∧ w.ownsRow base 3 1 vta b.nta (flatR (fun i => [.int .i64 (b.ta i)]) b.nta)
def bookS (b : BookD) : Prop := b.nf ≤ 1048576 ∧ b.nl ≤ 1048576 ∧ b.m ≤ 1048576 ∧ b.nfa ≤ 1048576 ∧ b.nta ≤ 1048576
theorem row_flat {k : Nat} {w : World} {base : Nat} {e : TypeId} {v : Value} {n : Nat} {g : Nat → List Value} (h : w.ownsRow base e k v n (flatR g n)) (hn : n ≤ 1048576) (hg : ∀ i, (g i).length = k) : RecRow k w v n g :=
  RecRow.of_owns h (by omega) (flatR_cells k g n fun i _ => hg i) (fun i _ => by rw [hg i]; exact Nat.le_refl _)
theorem BookMem.row {w : World} {base : Nat} {vf vl vg vfa vta : Value} {b : BookD} (h : BookMem w base vf vl vg vfa vta b) (hs : bookS b) : BookRow w vf vl vg vfa vta b :=
  ⟨(row_flat h.1 hs.1 fun _ => rfl).teams, (row_flat h.2.1 hs.2.1 fun _ => rfl).ints, row_flat h.2.2.1 hs.2.2.1 fun _ => rfl, (row_flat h.2.2.2.1 hs.2.2.2.1 fun _ => rfl).ints, (row_flat h.2.2.2.2 hs.2.2.2.2 fun _ => rfl).ints⟩
theorem BookMem.touch {w w' : World} {base lo hi : Nat} {vf vl vg vfa vta : Value} {b : BookD} (h : BookMem w base vf vl vg vfa vta b) (t : Touch lo hi w w') (ho : hi ≤ base) : BookMem w' base vf vl vg vfa vta b :=
  ⟨owns_touch h.1 t (InW.of_owns h.1) (.inr ho), owns_touch h.2.1 t (InW.of_owns h.2.1) (.inr ho), owns_touch h.2.2.1 t (InW.of_owns h.2.2.1) (.inr ho), owns_touch h.2.2.2.1 t (InW.of_owns h.2.2.2.1) (.inr ho), owns_touch h.2.2.2.2 t (InW.of_owns h.2.2.2.2) (.inr ho)⟩
theorem BookMem.mono {w : World} {base base' : Nat} {vf vl vg vfa vta : Value} {b : BookD} (h : BookMem w base vf vl vg vfa vta b) (hb : base' ≤ base) : BookMem w base' vf vl vg vfa vta b :=
  ⟨owns_mono h.1 hb, owns_mono h.2.1 hb, owns_mono h.2.2.1 hb, owns_mono h.2.2.2.1 hb, owns_mono h.2.2.2.2 hb⟩
theorem BookMem.below {w w' : World} {base B : Nat} {vf vl vg vfa vta : Value} {b : BookD} (h : BookMem w base vf vl vg vfa vta b) (hb : Below B w w') (hB : w.heap.size ≤ B) : BookMem w' base vf vl vg vfa vta b :=
  ⟨owns_below h.1 hb hB, owns_below h.2.1 hb hB, owns_below h.2.2.1 hb hB, owns_below h.2.2.2.1 hb hB, owns_below h.2.2.2.2 hb hB⟩
theorem BookMem.form {w : World} {base : Nat} {vf vl vg vfa vta : Value} {b : BookD} (h : BookMem w base vf vl vg vfa vta b) : ∃ fa fc la lc ga gc qa qc ta tc, vf = .slice fa b.nf fc ∧ vl = .slice la b.nl lc ∧ vg = .slice ga b.m gc ∧ vfa = .slice qa b.nfa qc ∧ vta = .slice ta b.nta tc := by
  obtain ⟨fa, fc, h1⟩ := owns_form h.1
  obtain ⟨la, lc, h2⟩ := owns_form h.2.1
  obtain ⟨ga, gc, h3⟩ := owns_form h.2.2.1
  obtain ⟨qa, qc, h4⟩ := owns_form h.2.2.2.1
  obtain ⟨ta, tc, h5⟩ := owns_form h.2.2.2.2
  exact ⟨fa, fc, la, lc, ga, gc, qa, qc, ta, tc, h1, h2, h3, h4, h5⟩
def BookMade (w : World) (b : BookD) (e : Ending) (w' : World) : Prop :=
  ∃ vf vl vg vfa vta, e = .returned (.agg #[vf, .int .i64 b.win, .int .i64 b.draw, .int .i64 b.loss, vl, .bool b.again, vg, vfa, vta]) ∧ BookMem w' w.heap.size vf vl vg vfa vta b ∧ Below w.heap.size w w'
end Go.Proofs.YteciobkjfmddcaaGreatDoor
