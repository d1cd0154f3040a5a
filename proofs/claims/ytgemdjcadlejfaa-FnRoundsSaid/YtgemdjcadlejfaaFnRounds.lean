/-
  The law FnRounds holds for every argument: the program answers as the model does.
-/
import Derived.Test.YtgemdjcadlejfaaRows
import Derived.WalkKit
import Derived.ProofKit
import Derived.OpenShut
import Derived.ShutString
import Derived.ChangeOld
import Derived.Below
import Derived.Lib.Hide
import Derived.Test.YtgemdjcadlejfaaQ2
import Derived.Test.YtgemdjcadlejfaaQ3
import Derived.Test.YtgemdjcadlejfaaQ5
import Derived.Test.YtgemdjcadlejfaaQ7
import Derived.Test.YtgemdjcadlejfaaQ8
import Derived.Test.YtgemdjcadlejfaaQ9
import Derived.Test.YtgemdjcadlejfaaQ10
import Derived.Test.YtgemdjcadlejfaaQ11
import Derived.Test.YtgemdjcadlejfaaQ12
import Derived.Test.YtgemdjcadlejfaaQ13
namespace Go.Proofs.Ytgemdjcadlejfaa.fnRounds
open Go.ChangeShapes Go.WideShapes Go.ChangeAt Go.RowKit
open Go.ChangeMaps (open_string shut_string)
set_option linter.unusedVariables false

theorem own : ownKnob Try.prog.godebug = none := by kernel_rfl
theorem laidOut : laidOutB Try.prog = true := by kernel_rfl

set_option maxHeartbeats 4000000 in
set_option maxRecDepth 100000 in
theorem walk (a : Option Addr) (len cap : Nat) (zs : List Int) (w : World) (hr : IsRow .u8 w a len cap zs) :
    Calls Try.prog 3 #[.slice a len cap] w fun e w' => e = .returned (.bool true) ∧ Below w.heap.size w w' := by
  obtain ⟨hrow, hsm, hfit⟩ := hr.bytes
  clear hr
  generalize getN zs = g at *
  by_cases hl : 1048576 < len
  · have g0 : decide ((1048576 : Int) < (len : Int)) = true := decide_eq_true (by omega)
    clear hrow hsm
    go_enter Try.func3, Try.ntmps3
    go_wp2
    go_ret
    exact ⟨rfl, Below.refl _ _⟩
  have g0 : decide ((1048576 : Int) < (len : Int)) = false := decide_eq_false (by omega)
  have hle : len ≤ 1048576 := by omega
  have CN := Lib.hid (makeNum_any a len cap 1 g w hrow hsm hle (by omega))
  clear hrow hsm
  go_enter Try.func3, Try.ntmps3
  go_wp2_with fail
  refine CN.out.mono ?_
  rintro e w1 ⟨⟨x, hx, rfl⟩, b1⟩
  have HB1 := Lib.hid b1
  clear b1 CN
  obtain ⟨n, hn⟩ : ∃ n : Nat, 2 + (x : Int) % 7 = (n : Int) := ⟨(2 + (x : Int) % 7).toNat, by omega⟩
  have hn2 : 2 ≤ n := by omega
  have hn8 : n ≤ 8 := by omega
  have HF := Lib.hid (rounds_are hn2 hn8)
  have CC : Hid (∀ wa, Calls Try.prog 14 #[.int .i64 (n : Int)] wa (MadeT tPairSS (circL n) wa)) := fun wa => by
    have h9 := circleRounds_impl (n : Int) true ⟨fun _ => ⟨by omega, by omega⟩, fun _ => rfl⟩ wa
    rw [show circR true (n : Int) = circL n from by show circL (n : Int).toNat = _; rw [Int.toNat_natCast]] at h9
    exact h9
  have HWD := Lib.hid (Nat.le_trans (wt_circ hn8) (by decide : 100 ≤ 1048576))
  have HWM : Hid (tPairSS.wt (mirL (circL n)) ≤ 1048576) := by show _ ≤ _; rw [wt_mir]; have := wt_circ hn8; omega
  have HLM : Hid (List.length (α := PairL) (mirL (circL n)) = 2 * List.length (α := PairL) (circL n)) := by show List.length (α := PairL) (circL n ++ (circL n).map turnR) = _; rw [List.length_append, List.length_map]; omega
  have CM := Lib.hid (fun v wa h => mirrorRounds_impl v (circL n) wa h HWD.out)
  have HLD : Hid (List.length (α := PairL) (circL n) ≤ 9) := len_circL hn8
  generalize mirL (circL n) = M at *
  generalize circL n = D at *
  go_wp2_with fail
  refine (CC.out _).mono ?_
  rintro e w2 ⟨rv, rfl, ho2, b2⟩
  have HO2 : OwN tPairSS w2 w1.heap.size w2.heap.size [rv] D := ho2
  obtain ⟨ra, rc, hrf, _⟩ := schedule_form HO2.rdA
  subst hrf
  have OD2 := Lib.hid HO2.rdA
  have HB2 := Lib.hid (HB1.out.trans (b2.mono HB1.out.size))
  clear ho2 HO2 b2 HB1 CC
  obtain ⟨nd, hnd⟩ : ∃ nd, List.length (α := PairL) D = nd := ⟨_, rfl⟩
  have HND := Lib.hid hnd
  rw [hnd] at OD2 HLM HLD ⊢
  clear hnd
  go_wp2_with fail
  refine (CM.out _ _ OD2.out).mono ?_
  rintro e w3 ⟨mv, rfl, ho3, b3⟩
  have HO3 : OwN tPairSS w3 w2.heap.size w3.heap.size [mv] M := ho3
  obtain ⟨ma, mc, hmf, _⟩ := schedule_form HO3.rdA
  subst hmf
  have OM := Lib.hid HO3.rdA
  have OD := Lib.hid (OD2.out.below b3)
  have HB := Lib.hid (HB2.out.trans (b3.mono HB2.out.size))
  clear ho3 HO3 b3 HB2 CM OD2
  obtain ⟨nm, hnm⟩ : ∃ nm, List.length (α := PairL) M = nm := ⟨_, rfl⟩
  have HNM := Lib.hid hnm
  rw [hnm] at OM ⊢
  have HLM2 : Hid (nm = 2 * nd) := by show _ = _; rw [← hnm]; exact HLM.out
  have hnd9 : nd ≤ 9 := HLD.out
  have hnd0 : 0 < nd := by have := HF.out.some; rw [HND.out] at this; exact this
  clear hnm HLM HLD
  have hnm0 : 0 < nm := by have := HLM2.out; omega
  obtain ⟨rr, hrr⟩ : ∃ rr : PairL, M[0]? = some rr := ⟨_, List.getElem?_eq_getElem (by rw [HNM.out]; omega)⟩
  have hnm18 : nm ≤ 18 := by have := HLM2.out; omega
  obtain ⟨b0, o0, x0, k0, hq0, hq1, hq2, hq3, hq4⟩ := round_cells (by rw [HNM.out]; exact OM.out) hrr
  have hpr : getPR M 0 = rr := by unfold getPR; rw [hrr]; rfl
  have hl0 : 0 < List.length (α := tPair.D) rr := by have := HF.out.first; rw [hpr] at this; exact this
  obtain ⟨p0, hp0⟩ : ∃ p0 : tPair.D, rr[0]? = some p0 := ⟨_, List.getElem?_eq_getElem hl0⟩
  obtain ⟨pb, po, hx0, hq5, hq6, hq7⟩ := pair_cells hq3 hp0
  subst hq0 hx0
  rw [HNM.out] at hq1
  have hhd : rr.headD (mkP 0 0) = p0 := by
    cases rr with
    | nil => cases hp0
    | cons y ys => exact Option.some.inj hp0
  have HMIR : Hid (ixL (aw p0) (hm p0) M 0 = (nd : Int)) := by show _ = _; have h9 := HF.out.mirror; rw [hpr, hhd, HND.out] at h9; exact h9
  have QC0 : Hid (w3.cell? ⟨b0, o0, none⟩ = some (.slice (some ⟨pb, po, none⟩) (List.length (α := tPair.D) rr) k0)) := by show _ = _; simpa using hq2
  have QC1 : Hid (w3.cell? ⟨pb, po, none⟩ = some (.int .i64 (hm p0))) := by show _ = _; simpa using hq6
  have QC2 : Hid (w3.cell? ⟨pb, po + 1, none⟩ = some (.int .i64 (aw p0))) := by show _ = _; simpa using hq7
  generalize hm p0 = ph at *
  generalize aw p0 = pa at *
  obtain ⟨l0, hl0e⟩ : ∃ l0, List.length (α := tPair.D) rr = l0 := ⟨_, rfl⟩
  rw [hl0e] at QC0 hq5 hl0 hq4
  clear hq2 hq3 hq6 hq7 hpr hhd hl0e hp0 hrr
  have R1 : Hid (∀ wa, RdA tPairSS wa [.slice ra nd rc] D → Calls Try.prog 16 #[.int .i64 (n : Int), .slice ra nd rc, .int .i64 1] wa fun e w' => e = .returned (.bool true) ∧ Below wa.heap.size wa w') := fun wa h => isRoundRobin_impl _ D n 1 true wa ⟨fun _ => HF.out.one, fun _ => rfl⟩ h HWD.out
  have R2 : Hid (∀ wa, RdA tPairSS wa [.slice (some ⟨b0, o0, none⟩) nm mc] M → Calls Try.prog 16 #[.int .i64 (n : Int), .slice (some ⟨b0, o0, none⟩) nm mc, .int .i64 2] wa fun e w' => e = .returned (.bool true) ∧ Below wa.heap.size wa w') := fun wa h => isRoundRobin_impl _ M n 2 true wa ⟨fun _ => HF.out.two, fun _ => rfl⟩ h HWM.out
  have R3 : Hid (∀ wa, RdA tPairSS wa [.slice ra nd rc] D → Calls Try.prog 16 #[.int .i64 (n : Int), .slice ra nd rc, .int .i64 2] wa fun e w' => e = .returned (.bool false) ∧ Below wa.heap.size wa w') := fun wa h => isRoundRobin_impl _ D n 2 false wa ⟨fun e => (by cases e), fun e => absurd e HF.out.not⟩ h HWD.out
  have R4 : Hid (∀ wa, RdA tPairSS wa [.slice ra nd rc] D → Calls Try.prog 17 #[.slice ra nd rc] wa (GamesM wa (gamesL D))) := fun wa h => gamesFrom_impl _ D wa h HWD.out
  have R5 : Hid (∀ wa, RdA tPairSS wa [.slice (some ⟨b0, o0, none⟩) nm mc] M → Calls Try.prog 17 #[.slice (some ⟨b0, o0, none⟩) nm mc] wa (GamesM wa (gamesL M))) := fun wa h => gamesFrom_impl _ M wa h HWM.out
  have CTB : Hid (∀ wa, RdA tPairSS wa [.slice (some ⟨b0, o0, none⟩) nm mc] M → Calls Try.prog 21 #[.int .i64 (n : Int), .slice (some ⟨b0, o0, none⟩) nm mc] wa fun e w' => e = .returned (.int .i64 (totB M n : Nat)) ∧ Below wa.heap.size wa w') := fun wa h => by
    have h9 := totalBreaks_impl _ M n true wa ⟨fun _ => HF.out.two.1, fun _ => rfl⟩ h HWM.out
    rw [if_pos rfl, Int.toNat_natCast] at h9
    exact h9
  have CRO : Hid (∀ wa, RdA tPairSS wa [.slice (some ⟨b0, o0, none⟩) nm mc] M → Calls Try.prog 22 #[.slice (some ⟨b0, o0, none⟩) nm mc, .int .i64 pa, .int .i64 ph] wa fun e w' => e = .returned (.int .i64 (nd : Int)) ∧ Below wa.heap.size wa w') := fun wa h => by
    have h9 := roundOf_impl _ M pa ph wa h
    rw [HMIR.out] at h9
    exact h9
  have CV : Hid (∀ (t : Int) wa, RdA tPairSS wa [.slice (some ⟨b0, o0, none⟩) nm mc] M → Calls Try.prog 19 #[.slice (some ⟨b0, o0, none⟩) nm mc, .int .i64 t] wa (IntsL wa (venL M t))) := fun t wa h => venuesOf_impl _ M t wa h HWM.out
  have CB : Hid (∀ (t : Int) wa, RdA tPairSS wa [.slice (some ⟨b0, o0, none⟩) nm mc] M → Calls Try.prog 20 #[.slice (some ⟨b0, o0, none⟩) nm mc, .int .i64 t] wa fun e w' => e = .returned (.int .i64 (breaksL M t)) ∧ Below wa.heap.size wa w') := fun t wa h => breaksOf_impl _ M t wa h HWM.out
  have HG1 : Hid ((gamesL D).length = n * (n - 1) / 2) := HF.out.games
  have HSE : Hid (seasonP (n : Int) (gamesL M).length (getO (gamesL M))) := HF.out.season
  have HHO : Hid (∀ t : Nat, t < n → homeS (venL M t) nm = 0) := fun t ht => by have h9 := HF.out.home t ht; rw [HNM.out] at h9; exact h9
  have HBK : Hid (∀ t : Int, breaksL M t ≤ 18) := fun t => by
    have h9 := brkN_le (venL M t) (List.length (α := PairL) M)
    rw [HNM.out] at h9
    unfold breaksL
    rw [HNM.out]
    omega
  have HVL : Hid (∀ t : Int, (venL M t).length = nm) := fun t => (List.length_map ..).trans HNM.out
  have HVR : Hid (∀ (t : Int) k, k < nm → 0 ≤ getI (venL M t) k ∧ getI (venL M t) k ≤ 2) := fun t k hk => by
    have hk2 : k < (venL M t).length := by rw [HVL.out]; exact hk
    have e : getI (venL M t) k = (venL M t)[k] := by unfold getI; exact (List.getElem_eq_getD 0).symm
    rw [e]
    obtain ⟨r, hr, e2⟩ := List.mem_map.1 (List.getElem_mem hk2)
    rw [← e2]
    have key : ∀ r : PairL, 0 ≤ venueL r t ∧ venueL r t ≤ 2 := by
      intro r
      induction r with
      | nil => exact ⟨Int.le_refl _, (by decide : (0 : Int) ≤ 2)⟩
      | cons p r ih => rw [venueL_cons]; split <;> (try split) <;> first | omega | exact ih
    exact key r
  clear HF HND HNM HWD HWM HMIR
  obtain ⟨GD, hGD⟩ : ∃ GD, gamesL D = GD := ⟨_, rfl⟩
  obtain ⟨GM, hGM⟩ : ∃ GM, gamesL M = GM := ⟨_, rfl⟩
  rw [hGD] at R4 HG1
  rw [hGM] at R5 HSE
  clear hGD hGM
  obtain ⟨gl, hgl⟩ : ∃ gl, GD.length = gl := ⟨_, rfl⟩
  have HGL := Lib.hid hgl
  rw [hgl] at HG1
  clear hgl
  obtain ⟨nn, hnn⟩ : ∃ nn, n * (n - 1) = nn := ⟨_, rfl⟩
  have hnn56 : nn ≤ 56 := by rw [← hnn]; exact Nat.le_trans (Nat.mul_le_mul hn8 (show n - 1 ≤ 7 by omega)) (by decide)
  have m1 : IntKind.i64.wrap ((n : Int) * ((n : Int) - 1)) = (nn : Int) := by
    have e : ((n : Int) - 1) = ((n - 1 : Nat) : Int) := by omega
    rw [e, ← Int.natCast_mul, hnn]
    exact IntWalk.i64_in _ (by omega)
  have m1b : (n : Int) * ((n : Int) - 1) = (nn : Int) := by
    have e : ((n : Int) - 1) = ((n - 1 : Nat) : Int) := by omega
    rw [e, ← Int.natCast_mul, hnn]
  have m2 : (nn : Int) / 2 = (gl : Int) := by have := HG1.out; rw [hnn] at this; omega
  clear hnn HG1
  have gm : ((nm : Int) != 2 * (nd : Int)) = false := by
    have := HLM2.out
    simp
    omega
  have gn0 : ((nm : Int) == 0) = false := beq_eq_false_iff_ne.2 (by omega)
  have gl0 : ((l0 : Int) == 0) = false := beq_eq_false_iff_ne.2 (by omega)
  have gi0 : (0 : Int) < (nm : Int) := by omega
  have gi1 : (0 : Int) < (l0 : Int) := by omega
  go_wp2_with fail
  refine (R1.out _ OD.out).mono ?_
  rintro e w4 ⟨rfl, b⟩
  replace OD := Lib.hid (OD.out.below b)
  replace OM := Lib.hid (OM.out.below b)
  replace QC0 := Lib.hid ((b.cell (p := ⟨b0, o0, none⟩) (World.block_lt_of_cell? _ _ QC0.out)).trans QC0.out)
  replace QC1 := Lib.hid ((b.cell (p := ⟨pb, po, none⟩) (World.block_lt_of_cell? _ _ QC1.out)).trans QC1.out)
  replace QC2 := Lib.hid ((b.cell (p := ⟨pb, po + 1, none⟩) (World.block_lt_of_cell? _ _ QC2.out)).trans QC2.out)
  replace HB := Lib.hid (HB.out.trans (b.mono HB.out.size))
  clear b
  go_wp2_with fail
  refine (R2.out _ OM.out).mono ?_
  rintro e w5 ⟨rfl, b⟩
  replace OD := Lib.hid (OD.out.below b)
  replace OM := Lib.hid (OM.out.below b)
  replace QC0 := Lib.hid ((b.cell (p := ⟨b0, o0, none⟩) (World.block_lt_of_cell? _ _ QC0.out)).trans QC0.out)
  replace QC1 := Lib.hid ((b.cell (p := ⟨pb, po, none⟩) (World.block_lt_of_cell? _ _ QC1.out)).trans QC1.out)
  replace QC2 := Lib.hid ((b.cell (p := ⟨pb, po + 1, none⟩) (World.block_lt_of_cell? _ _ QC2.out)).trans QC2.out)
  replace HB := Lib.hid (HB.out.trans (b.mono HB.out.size))
  clear b
  go_wp2_with fail
  refine (R3.out _ OD.out).mono ?_
  rintro e w6 ⟨rfl, b⟩
  replace OD := Lib.hid (OD.out.below b)
  replace OM := Lib.hid (OM.out.below b)
  replace QC0 := Lib.hid ((b.cell (p := ⟨b0, o0, none⟩) (World.block_lt_of_cell? _ _ QC0.out)).trans QC0.out)
  replace QC1 := Lib.hid ((b.cell (p := ⟨pb, po, none⟩) (World.block_lt_of_cell? _ _ QC1.out)).trans QC1.out)
  replace QC2 := Lib.hid ((b.cell (p := ⟨pb, po + 1, none⟩) (World.block_lt_of_cell? _ _ QC2.out)).trans QC2.out)
  replace HB := Lib.hid (HB.out.trans (b.mono HB.out.size))
  clear b
  clear R1 R2 R3
  go_wp2_with fail
  refine (R4.out _ OD.out).mono ?_
  rintro e w7 ⟨gv, rfl, ho, b⟩
  replace OD := Lib.hid (OD.out.below b)
  replace OM := Lib.hid (OM.out.below b)
  replace QC0 := Lib.hid ((b.cell (p := ⟨b0, o0, none⟩) (World.block_lt_of_cell? _ _ QC0.out)).trans QC0.out)
  replace QC1 := Lib.hid ((b.cell (p := ⟨pb, po, none⟩) (World.block_lt_of_cell? _ _ QC1.out)).trans QC1.out)
  replace QC2 := Lib.hid ((b.cell (p := ⟨pb, po + 1, none⟩) (World.block_lt_of_cell? _ _ QC2.out)).trans QC2.out)
  replace HB := Lib.hid (HB.out.trans (b.mono HB.out.size))
  obtain ⟨ga, gc, hgf⟩ := owns_form ho
  subst hgf
  rw [HGL.out]
  clear ho b R4 OD
  have qc0 := QC0.out
  go_wp2_with fail
  clear qc0 m1 m1b m2
  refine (R5.out _ OM.out).mono ?_
  rintro e w8 ⟨sv, rfl, ho, b⟩
  replace OM := Lib.hid (OM.out.below b)
  replace QC0 := Lib.hid ((b.cell (p := ⟨b0, o0, none⟩) (World.block_lt_of_cell? _ _ QC0.out)).trans QC0.out)
  replace QC1 := Lib.hid ((b.cell (p := ⟨pb, po, none⟩) (World.block_lt_of_cell? _ _ QC1.out)).trans QC1.out)
  replace QC2 := Lib.hid ((b.cell (p := ⟨pb, po + 1, none⟩) (World.block_lt_of_cell? _ _ QC2.out)).trans QC2.out)
  replace HB := Lib.hid (HB.out.trans (b.mono HB.out.size))
  have HGR : Hid (GameRow w8 sv GM.length (getO GM)) := GameRow.of_owns ho (by have := HSE.out.1; omega) (ocells_rec GM)
  obtain ⟨sa, sc, hsf⟩ := owns_form ho
  subst hsf
  clear ho b R5
  go_wp2_with fail
  refine (seasonOk_impl (n : Int) _ GM.length (getO GM) true _ ⟨fun _ => HSE.out, fun _ => rfl⟩ HGR.out).mono ?_
  rintro e w9 ⟨rfl, b⟩
  replace OM := Lib.hid (OM.out.below b)
  replace QC0 := Lib.hid ((b.cell (p := ⟨b0, o0, none⟩) (World.block_lt_of_cell? _ _ QC0.out)).trans QC0.out)
  replace QC1 := Lib.hid ((b.cell (p := ⟨pb, po, none⟩) (World.block_lt_of_cell? _ _ QC1.out)).trans QC1.out)
  replace QC2 := Lib.hid ((b.cell (p := ⟨pb, po + 1, none⟩) (World.block_lt_of_cell? _ _ QC2.out)).trans QC2.out)
  replace HB := Lib.hid (HB.out.trans (b.mono HB.out.size))
  clear b HGR HSE
  go_wp2
  go_loopw [6, 7] (fun sv tv wr => ∃ (t z : Nat), t ≤ n ∧ tv = .int .i64 t ∧ sv = .int .i64 z ∧ z ≤ 18 * t ∧ Hid (z = totB M t) ∧ Hid (RdA tPairSS wr [.slice (some ⟨b0, o0, none⟩) nm mc] M) ∧ Hid (wr.cell? ⟨b0, o0, none⟩ = some (.slice (some ⟨pb, po, none⟩) l0 k0)) ∧ Hid (wr.cell? ⟨pb, po, none⟩ = some (.int .i64 ph)) ∧ Hid (wr.cell? ⟨pb, po + 1, none⟩ = some (.int .i64 pa)) ∧ Hid (Below w.heap.size w wr)) (fun _ tv _ => n - (RowKit.intOf tv).toNat)
  case atStart => exact ⟨0, 0, Nat.zero_le _, rfl, rfl, Nat.le_refl _, rfl, OM, QC0, QC1, QC2, HB⟩
  case round =>
    clear OM QC0 QC1 QC2 HB
    obtain ⟨t, z, ht9, rfl, rfl, hz, HZ, OM, QC0, QC1, QC2, HB⟩ := hrel
    by_cases hlt : t < n
    · have hj1 : (t : Int) < (n : Int) := by omega
      have HH := Lib.hid (HHO.out t hlt)
      have HL := Lib.hid (HVL.out t)
      have HR := Lib.hid (HVR.out t)
      have HZ2 : Hid (z + breaksL M t = totB M (t + 1)) := by show _ = _; rw [totB_succ, HZ.out]
      have hbk := HBK.out t
      have CVt := Lib.hid (CV.out t)
      have CBt := Lib.hid (CB.out t)
      generalize breaksL M (t : Int) = y at *
      generalize venL M (t : Int) = L at *
      go_wp2_with fail
      refine (CVt.out _ OM.out).mono ?_
      rintro e w10 h3
      obtain ⟨vv, rfl, hVR, _, b⟩ := h3.made (by rw [HL.out]; omega)
      rw [HL.out] at hVR
      obtain ⟨va, vc, rfl, h63, _⟩ := hVR.form
      have HV := Lib.hid hVR
      replace OM := Lib.hid (OM.out.below b)
      replace QC0 := Lib.hid ((b.cell (p := ⟨b0, o0, none⟩) (World.block_lt_of_cell? _ _ QC0.out)).trans QC0.out)
      replace QC1 := Lib.hid ((b.cell (p := ⟨pb, po, none⟩) (World.block_lt_of_cell? _ _ QC1.out)).trans QC1.out)
      replace QC2 := Lib.hid ((b.cell (p := ⟨pb, po + 1, none⟩) (World.block_lt_of_cell? _ _ QC2.out)).trans QC2.out)
      replace HB := Lib.hid (HB.out.trans (b.mono HB.out.size))
      clear h3 hVR b CVt
      go_wp2
      go_loop [9, 91] (fun hv iv => ∃ (k : Nat) (h : Int), k ≤ nm ∧ iv = .int .i64 k ∧ hv = .int .i64 h ∧ (-100 * (k : Int) ≤ h ∧ h ≤ 100 * (k : Int)) ∧ Hid (h = homeS L k)) (fun _ iv => nm - (RowKit.intOf iv).toNat)
      case atStart => exact ⟨0, 0, Nat.zero_le _, rfl, rfl, by omega, rfl⟩
      case round =>
        obtain ⟨k, h, hk9, rfl, rfl, hh, HS⟩ := hrel
        by_cases hlt2 : k < nm
        · obtain ⟨bo, oo, rfl, hcap, q0⟩ := int_at HV.out hlt2
          have hj2 : (k : Int) < (nm : Int) := by omega
          have hx := HR.out k hlt2
          have HS2 : Hid (h + 2 * (getI L k % 2) - getI L k + getI L k / 2 = homeS L (k + 1)) := by show _ = homeS L k + 2 * (getI L k % 2) - getI L k + getI L k / 2; rw [HS.out]
          generalize getI L k = x at *
          obtain ⟨hx0, hx2⟩ := hx
          have tm : x.tmod 2 = x % 2 := Int.tmod_eq_emod_of_nonneg hx0
          have td : x.tdiv 2 = x / 2 := Int.tdiv_eq_ediv_of_nonneg hx0
          go_wp2
          go_round
          case rel => exact ⟨k + 1, _, by omega, by go_num, rfl, by omega, HS2⟩
          case measure => simp [RowKit.intOf]; omega
        obtain rfl : k = nm := by omega
        obtain rfl : h = 0 := HS.out.trans HH.out
        go_wp2_with fail
        refine (CBt.out _ OM.out).mono ?_
        rintro e w11 ⟨rfl, b⟩
        replace OM := Lib.hid (OM.out.below b)
        replace QC0 := Lib.hid ((b.cell (p := ⟨b0, o0, none⟩) (World.block_lt_of_cell? _ _ QC0.out)).trans QC0.out)
        replace QC1 := Lib.hid ((b.cell (p := ⟨pb, po, none⟩) (World.block_lt_of_cell? _ _ QC1.out)).trans QC1.out)
        replace QC2 := Lib.hid ((b.cell (p := ⟨pb, po + 1, none⟩) (World.block_lt_of_cell? _ _ QC2.out)).trans QC2.out)
        replace HB := Lib.hid (HB.out.trans (b.mono HB.out.size))
        clear b CBt
        have s1 : IntKind.i64.wrap ((z : Int) + (y : Int)) = (z : Int) + (y : Int) := IntWalk.i64_in _ (by omega)
        go_wp2
        go_roundw
        case rel => exact ⟨t + 1, z + y, by omega, by go_num, by go_num, by omega, HZ2, OM, QC0, QC1, QC2, HB⟩
        case measure => simp [RowKit.intOf]; omega
    obtain rfl : t = n := by omega
    rw [← HZ.out] at CTB
    clear HZ hz CV CB HHO HBK HVL HVR
    obtain ⟨S, HSd⟩ : ∃ S : World → Prop, S = fun w' => (RdA tPairSS w' [(.slice (some ⟨b0, o0, none⟩) nm mc)] M ∧ w'.cell? ⟨b0, o0, none⟩ = some (.slice (some ⟨pb, po, none⟩) l0 k0) ∧ w'.cell? ⟨pb, po, none⟩ = some (.int .i64 ph) ∧ w'.cell? ⟨pb, po + 1, none⟩ = some (.int .i64 pa) ∧ Below w.heap.size w w') := ⟨_, rfl⟩
    have KS : Hid (∀ wa wb, S wa → Below wa.heap.size wa wb → S wb) := by subst HSd; exact fun wa wb h b => ⟨h.1.below b, (b.cell (p := ⟨b0, o0, none⟩) (World.block_lt_of_cell? wa _ h.2.1)).trans h.2.1, (b.cell (p := ⟨pb, po, none⟩) (World.block_lt_of_cell? wa _ h.2.2.1)).trans h.2.2.1, (b.cell (p := ⟨pb, po + 1, none⟩) (World.block_lt_of_cell? wa _ h.2.2.2.1)).trans h.2.2.2.1, h.2.2.2.2.trans (b.mono h.2.2.2.2.size)⟩
    have OS : Hid (∀ wa, S wa → (RdA tPairSS wa [(.slice (some ⟨b0, o0, none⟩) nm mc)] M ∧ wa.cell? ⟨b0, o0, none⟩ = some (.slice (some ⟨pb, po, none⟩) l0 k0) ∧ wa.cell? ⟨pb, po, none⟩ = some (.int .i64 ph) ∧ wa.cell? ⟨pb, po + 1, none⟩ = some (.int .i64 pa) ∧ Below w.heap.size w wa)) := by subst HSd; exact fun wa h => h
    have IS : Hid (∀ wa, (RdA tPairSS wa [(.slice (some ⟨b0, o0, none⟩) nm mc)] M ∧ wa.cell? ⟨b0, o0, none⟩ = some (.slice (some ⟨pb, po, none⟩) l0 k0) ∧ wa.cell? ⟨pb, po, none⟩ = some (.int .i64 ph) ∧ wa.cell? ⟨pb, po + 1, none⟩ = some (.int .i64 pa) ∧ Below w.heap.size w wa) → S wa) := by subst HSd; exact fun wa h => h
    clear HSd
    go_wp2_with fail
    refine wp_region_held_drew (S := S) (by kernel_rfl) ?_ (fun hHeld => ?_)
    · exact IS.out _ ((fun (b : Below wr.heap.size wr wr.drew) => ⟨OM.out.below b, (b.cell (p := ⟨b0, o0, none⟩) (World.block_lt_of_cell? wr _ QC0.out)).trans QC0.out, (b.cell (p := ⟨pb, po, none⟩) (World.block_lt_of_cell? wr _ QC1.out)).trans QC1.out, (b.cell (p := ⟨pb, po + 1, none⟩) (World.block_lt_of_cell? wr _ QC2.out)).trans QC2.out, HB.out.trans (b.mono HB.out.size)⟩) (Below.refl _ _).drew)
    refine wpAnyH_take (i := 0) (v := ?_) rfl (by kernel_rfl) (by kernel_rfl) (by kernel_rfl) (fun _ _ _ h => h) (Or.inl ⟨by rfl, ?_⟩) hHeld ?_
    rotate_left
    · (intro wa hSw; go_simp; try with_reducible rfl)
    simp only [Act.put, List.getElem_toArray, List.getElem_cons_zero, List.setIfInBounds_toArray, List.set_cons_zero, List.set_cons_succ]
    refine wpAnyH_take (i := 1) (v := ?_) rfl (by kernel_rfl) (by kernel_rfl) (by kernel_rfl) (fun _ _ _ h => h) (Or.inl ⟨by rfl, ?_⟩) hHeld ?_
    rotate_left
    · (intro wa hSw; go_simp; try with_reducible rfl)
    simp only [Act.put, List.getElem_toArray, List.getElem_cons_zero, List.getElem_cons_succ, List.setIfInBounds_toArray, List.set_cons_zero, List.set_cons_succ]
    refine wpAnyH_take (i := 3) (v := ?_) rfl (by kernel_rfl) (by kernel_rfl) (by kernel_rfl) (fun _ _ _ h => h) (Or.inl ⟨by rfl, ?_⟩) hHeld ?_
    rotate_left
    · (intro wa hSw; go_simp; try with_reducible rfl)
    simp only [Act.put, List.getElem_toArray, List.getElem_cons_zero, List.getElem_cons_succ, List.setIfInBounds_toArray, List.set_cons_zero, List.set_cons_succ]
    refine wpAnyH_ready (rs := [2]) (by kernel_rfl) (by simp) ?_
    refine AllReadyH.cons (o := _) rfl (fun K hK => ?_) AllReadyH.nil
    go_simp
    have KK := OS.out _ hHeld
    refine (CTB.out _ KK.1).mono ?_
    rintro e w101 ⟨rfl, b101⟩
    clear KK
    (try go_wp2_with fail)
    refine hK.out _ _ ?_ (fun hHeld101 => ?_)
    · exact KS.out _ _ hHeld b101
    clear hK K
    refine wpAnyH_take (i := 4) (v := ?_) rfl (by kernel_rfl) (by kernel_rfl) (by kernel_rfl) (fun _ _ _ h => h) (Or.inl ⟨by rfl, ?_⟩) hHeld101 ?_
    rotate_left
    · (intro wa hSw; go_simp; try with_reducible rfl)
    simp only [Act.put, List.getElem_toArray, List.getElem_cons_zero, List.getElem_cons_succ, List.setIfInBounds_toArray, List.set_cons_zero, List.set_cons_succ]
    refine wpAnyH_take (i := 5) (v := ?_) rfl (by kernel_rfl) (by kernel_rfl) (by kernel_rfl) (fun _ _ _ h => h) (Or.inl ⟨by rfl, ?_⟩) hHeld101 ?_
    rotate_left
    · (intro wa hSw; go_simp; try with_reducible rfl)
    simp only [Act.put, List.getElem_toArray, List.getElem_cons_zero, List.getElem_cons_succ, List.setIfInBounds_toArray, List.set_cons_zero, List.set_cons_succ]
    refine wpAnyH_take (i := 6) (v := ?_) rfl (by kernel_rfl) (by kernel_rfl) (by kernel_rfl) (fun _ _ _ h => h) (Or.inl ⟨by rfl, ?_⟩) hHeld101 ?_
    rotate_left
    · (intro wa hSw; go_simp; try with_reducible rfl)
    simp only [Act.put, List.getElem_toArray, List.getElem_cons_zero, List.getElem_cons_succ, List.setIfInBounds_toArray, List.set_cons_zero, List.set_cons_succ]
    refine wpAnyH_take (i := 7) (v := ?_) rfl (by kernel_rfl) (by kernel_rfl) (by kernel_rfl) (fun _ _ _ h => h) (Or.inl ⟨by rfl, ?_⟩) hHeld101 ?_
    rotate_left
    · (intro wa hSw; go_simp; try with_reducible rfl)
    simp only [Act.put, List.getElem_toArray, List.getElem_cons_zero, List.getElem_cons_succ, List.setIfInBounds_toArray, List.set_cons_zero, List.set_cons_succ]
    refine wpAnyH_take (i := 8) (v := ?_) rfl (by kernel_rfl) (by kernel_rfl) (by kernel_rfl) (fun _ _ _ h => h) (Or.inl ⟨by rfl, ?_⟩) hHeld101 ?_
    rotate_left
    · (intro wa hSw; go_simp; try with_reducible rfl)
    simp only [Act.put, List.getElem_toArray, List.getElem_cons_zero, List.getElem_cons_succ, List.setIfInBounds_toArray, List.set_cons_zero, List.set_cons_succ]
    refine wpAnyH_take (i := 9) (v := ?_) rfl (by kernel_rfl) (by kernel_rfl) (by kernel_rfl) (fun _ _ _ h => h) (Or.inl ⟨by rfl, ?_⟩) hHeld101 ?_
    rotate_left
    · (intro wa hSw; have K := OS.out _ hSw; have cb0 := K.2.1; have cb1 := K.2.2.1; have cb2 := K.2.2.2.1; go_simp; try with_reducible rfl)
    simp only [Act.put, List.getElem_toArray, List.getElem_cons_zero, List.getElem_cons_succ, List.setIfInBounds_toArray, List.set_cons_zero, List.set_cons_succ]
    refine wpAnyH_take (i := 10) (v := ?_) rfl (by kernel_rfl) (by kernel_rfl) (by kernel_rfl) (fun _ _ _ h => h) (Or.inl ⟨by rfl, ?_⟩) hHeld101 ?_
    rotate_left
    · (intro wa hSw; go_simp; try with_reducible rfl)
    simp only [Act.put, List.getElem_toArray, List.getElem_cons_zero, List.getElem_cons_succ, List.setIfInBounds_toArray, List.set_cons_zero, List.set_cons_succ]
    refine wpAnyH_take (i := 11) (v := ?_) rfl (by kernel_rfl) (by kernel_rfl) (by kernel_rfl) (fun _ _ _ h => h) (Or.inl ⟨by rfl, ?_⟩) hHeld101 ?_
    rotate_left
    · (intro wa hSw; go_simp; try with_reducible rfl)
    simp only [Act.put, List.getElem_toArray, List.getElem_cons_zero, List.getElem_cons_succ, List.setIfInBounds_toArray, List.set_cons_zero, List.set_cons_succ]
    refine wpAnyH_take (i := 12) (v := ?_) rfl (by kernel_rfl) (by kernel_rfl) (by kernel_rfl) (fun _ _ _ h => h) (Or.inl ⟨by rfl, ?_⟩) hHeld101 ?_
    rotate_left
    · (intro wa hSw; have K := OS.out _ hSw; have cb0 := K.2.1; have cb1 := K.2.2.1; have cb2 := K.2.2.2.1; go_simp; try with_reducible rfl)
    simp only [Act.put, List.getElem_toArray, List.getElem_cons_zero, List.getElem_cons_succ, List.setIfInBounds_toArray, List.set_cons_zero, List.set_cons_succ]
    refine wpAnyH_take (i := 13) (v := ?_) rfl (by kernel_rfl) (by kernel_rfl) (by kernel_rfl) (fun _ _ _ h => h) (Or.inl ⟨by rfl, ?_⟩) hHeld101 ?_
    rotate_left
    · (intro wa hSw; go_simp; try with_reducible rfl)
    simp only [Act.put, List.getElem_toArray, List.getElem_cons_zero, List.getElem_cons_succ, List.setIfInBounds_toArray, List.set_cons_zero, List.set_cons_succ]
    refine wpAnyH_take (i := 14) (v := ?_) rfl (by kernel_rfl) (by kernel_rfl) (by kernel_rfl) (fun _ _ _ h => h) (Or.inl ⟨by rfl, ?_⟩) hHeld101 ?_
    rotate_left
    · (intro wa hSw; go_simp; try with_reducible rfl)
    simp only [Act.put, List.getElem_toArray, List.getElem_cons_zero, List.getElem_cons_succ, List.setIfInBounds_toArray, List.set_cons_zero, List.set_cons_succ]
    refine wpAnyH_take (i := 15) (v := ?_) rfl (by kernel_rfl) (by kernel_rfl) (by kernel_rfl) (fun _ _ _ h => h) (Or.inl ⟨by rfl, ?_⟩) hHeld101 ?_
    rotate_left
    · (intro wa hSw; have K := OS.out _ hSw; have cb0 := K.2.1; have cb1 := K.2.2.1; have cb2 := K.2.2.2.1; go_simp; try with_reducible rfl)
    simp only [Act.put, List.getElem_toArray, List.getElem_cons_zero, List.getElem_cons_succ, List.setIfInBounds_toArray, List.set_cons_zero, List.set_cons_succ]
    refine wpAnyH_take (i := 16) (v := ?_) rfl (by kernel_rfl) (by kernel_rfl) (by kernel_rfl) (fun _ _ _ h => h) (Or.inl ⟨by rfl, ?_⟩) hHeld101 ?_
    rotate_left
    · (intro wa hSw; go_simp; try with_reducible rfl)
    simp only [Act.put, List.getElem_toArray, List.getElem_cons_zero, List.getElem_cons_succ, List.setIfInBounds_toArray, List.set_cons_zero, List.set_cons_succ]
    refine wpAnyH_take (i := 17) (v := ?_) rfl (by kernel_rfl) (by kernel_rfl) (by kernel_rfl) (fun _ _ _ h => h) (Or.inl ⟨by rfl, ?_⟩) hHeld101 ?_
    rotate_left
    · (intro wa hSw; go_simp; try with_reducible rfl)
    simp only [Act.put, List.getElem_toArray, List.getElem_cons_zero, List.getElem_cons_succ, List.setIfInBounds_toArray, List.set_cons_zero, List.set_cons_succ]
    refine wpAnyH_take (i := 18) (v := ?_) rfl (by kernel_rfl) (by kernel_rfl) (by kernel_rfl) (fun _ _ _ h => h) (Or.inl ⟨by rfl, ?_⟩) hHeld101 ?_
    rotate_left
    · (intro wa hSw; have K := OS.out _ hSw; have cb0 := K.2.1; have cb1 := K.2.2.1; have cb2 := K.2.2.2.1; go_simp; try with_reducible rfl)
    simp only [Act.put, List.getElem_toArray, List.getElem_cons_zero, List.getElem_cons_succ, List.setIfInBounds_toArray, List.set_cons_zero, List.set_cons_succ]
    refine wpAnyH_take (i := 20) (v := ?_) rfl (by kernel_rfl) (by kernel_rfl) (by kernel_rfl) (fun _ _ _ h => h) (Or.inl ⟨by rfl, ?_⟩) hHeld101 ?_
    rotate_left
    · (intro wa hSw; go_simp; try with_reducible rfl)
    simp only [Act.put, List.getElem_toArray, List.getElem_cons_zero, List.getElem_cons_succ, List.setIfInBounds_toArray, List.set_cons_zero, List.set_cons_succ]
    refine wpAnyH_take (i := 21) (v := ?_) rfl (by kernel_rfl) (by kernel_rfl) (by kernel_rfl) (fun _ _ _ h => h) (Or.inl ⟨by rfl, ?_⟩) hHeld101 ?_
    rotate_left
    · (intro wa hSw; go_simp; try with_reducible rfl)
    simp only [Act.put, List.getElem_toArray, List.getElem_cons_zero, List.getElem_cons_succ, List.setIfInBounds_toArray, List.set_cons_zero, List.set_cons_succ]
    refine wpAnyH_ready (rs := [19]) (by kernel_rfl) (by simp) ?_
    refine AllReadyH.cons (o := _) rfl (fun K hK => ?_) AllReadyH.nil
    go_simp
    have KK := OS.out _ hHeld101
    refine (CRO.out _ KK.1).mono ?_
    rintro e w102 ⟨rfl, b102⟩
    clear KK
    (try go_wp2_with fail)
    refine hK.out _ _ ?_ (fun hHeld102 => ?_)
    · exact KS.out _ _ hHeld101 b102
    clear hK K
    clear hHeld101
    refine wpAnyH_take (i := 22) (v := ?_) rfl (by kernel_rfl) (by kernel_rfl) (by kernel_rfl) (fun _ _ _ h => h) (Or.inl ⟨by rfl, ?_⟩) hHeld102 ?_
    rotate_left
    · (intro wa hSw; go_simp; try with_reducible rfl)
    simp only [Act.put, List.getElem_toArray, List.getElem_cons_zero, List.getElem_cons_succ, List.setIfInBounds_toArray, List.set_cons_zero, List.set_cons_succ]
    refine wpAnyH_take (i := 23) (v := ?_) rfl (by kernel_rfl) (by kernel_rfl) (by kernel_rfl) (fun _ _ _ h => h) (Or.inl ⟨by rfl, ?_⟩) hHeld102 ?_
    rotate_left
    · (intro wa hSw; go_simp; try with_reducible rfl)
    simp only [Act.put, List.getElem_toArray, List.getElem_cons_zero, List.getElem_cons_succ, List.setIfInBounds_toArray, List.set_cons_zero, List.set_cons_succ]
    refine wpAnyH_take (i := 24) (v := ?_) rfl (by kernel_rfl) (by kernel_rfl) (by kernel_rfl) (fun _ _ _ h => h) (Or.inl ⟨by rfl, ?_⟩) hHeld102 ?_
    rotate_left
    · (intro wa hSw; go_simp; try with_reducible rfl)
    simp only [Act.put, List.getElem_toArray, List.getElem_cons_zero, List.getElem_cons_succ, List.setIfInBounds_toArray, List.set_cons_zero, List.set_cons_succ]
    refine wpAnyH_done (by kernel_rfl) ?_ _
    have KE := Lib.hid (OS.out _ hHeld102)
    clear KS OS IS hHeld hHeld102
    have HE := Lib.hid KE.out.2.2.2.2
    clear KE
    go_wp2
    go_ret
    exact ⟨rfl, HE.out⟩

set_option maxRecDepth 100000 in
theorem lifted (os : Os) (started : os.Started) (H : Type) (enc : TypeId × Value → H) :
    ReturnsInHanded {} Try.checked os 3 .any (Rows.fnRoundsSpec.pre6 enc Try.prog Try.f3 Rows.fnRoundsRow.domain false) (Rows.fnRoundsSpec.post enc Try.prog Try.f3 false true false false) := by
  refine returnsInHanded_of_change (C := Try.checked) own started (by kernel_rfl) Try.func3
    (ChangeSpec.witness6 (enc := enc) (C := Try.checked) false ⟨#[], #[.slice none 0 0], []⟩ 8 (by kernel_rfl) (by kernel_rfl) (by kernel_rfl) (by kernel_rfl)) ?_
  intro W base args ds gs before hval0 hW hcnd _
  have hval : ∀ (j : Nat) t v, Try.f3.params[j]? = some t → args[j]? = some v → Value.okWide Try.prog W .any base t v := hval0
  have hW' := hW
  obtain ⟨p, q, hA0, hV, rfl, hfz, hnd⟩ := hW
  have hA : DataW.TrodAll enc Try.prog W 0 (fun _ => true) true Try.f3.params.toList args.toList ds p := hA0
  rw [Try.params3] at hA hval
  obtain ⟨v0, vs0, d0, ds0, p0, q0, hargs, rfl, rfl, h0, r0⟩ := trodAll_cons hA
  obtain ⟨rfl, rfl, rfl⟩ := trodAll_nil r0
  obtain rfl : args = #[v0] := by cases args; simp_all
  obtain ⟨rfl, rfl⟩ := trodVars_none hV
  have k0 := h0
  have lt0 : ∀ x ∈ p0, x.block < W.heap.size := by obtain ⟨m, hm⟩ := k0; exact DataW.trod_lt m _ _ _ hm
  obtain ⟨a0, len0, cap0, rfl⟩ := okWide_slice Try.underlying22 (hval 0 22 v0 rfl rfl)
  obtain ⟨z0, w0⟩ : ∃ zs, IsRow .u8 W a0 len0 cap0 zs := by
    obtain ⟨fuel, hf⟩ := h0
    rcases open_ints Try.underlying22 Try.underlying5 (by kernel_rfl) hf with ⟨hcs, _⟩ | ⟨x, l, c, zs, hcs, _, hl, hm, hz, _, hcell, hwz⟩
    · simp [Value.cells] at hcs
      obtain ⟨rfl, rfl, rfl⟩ := hcs
      exact ⟨[], .inl ⟨rfl, rfl, rfl, rfl⟩⟩
    · simp [Value.cells] at hcs
      obtain ⟨rfl, rfl, rfl⟩ := hcs
      exact ⟨zs, .inr ⟨_, rfl, hl, hm, by simpa using hz, hcell, hwz⟩⟩
  clear hA0 hval0
  simp only [List.append_nil] at hW'
  refine (walk a0 len0 cap0 z0 W w0).mono fun e W' ⟨he, bel⟩ => ?_
  subst he
  exact ⟨_, rfl, _, _, _, [], _, [], hW', trodAll_mk1 (shut_bool Try.underlying4 _), (trodAll_cons_mk (Below.trod laidOut (by kernel_rfl) (of_decide_eq_true (by kernel_rfl)) k0 bel lt0) trodAll_mk0), rfl, bel.frame _, fun h => by cases h⟩

theorem over : Rows.fnRoundsRow.holds Try.pinned (OpenSpec.ofChange Rows.fnRoundsSpec) :=
  OpenClaim.holds_of_wide 3 Try.f3 rfl rfl rfl rfl rfl rfl rfl ⟨rfl, rfl, rfl, rfl, rfl⟩ rfl rfl rfl rfl rfl (by kernel_rfl) Try.func3 (by kernel_rfl)
    (of_decide_eq_true (by kernel_rfl)) (by unfold Func.isWrapper; first | (rw [if_pos (by decide +kernel)]; kernel_rfl) | (rw [if_neg (by decide +kernel)]; exact ⟨rfl, rfl⟩))
    (fun os started H enc _ => lifted os started H enc)

theorem proved : Rows.FnRoundsSaid := over
end Go.Proofs.Ytgemdjcadlejfaa.fnRounds
