/-
  The law FnExactCanPlayOn holds for every argument: the program answers as the model does.
-/
import Derived.Test.YtcbpgbiannpfpaaRows
import Derived.WalkKit
import Derived.ProofKit
import Derived.OpenShut
import Derived.ShutString
import Derived.ChangeOld
import Derived.Below
import Derived.Lib.Hide
import Derived.Deep.RegionHeld3
import Derived.Test.YtcbpgbiannpfpaaQ1
import Derived.Test.YtcbpgbiannpfpaaQ2
import Derived.Test.YtcbpgbiannpfpaaQ3
import Derived.Test.YtcbpgbiannpfpaaQ4
import Derived.Test.YtcbpgbiannpfpaaQ7
import Derived.Test.YtcbpgbiannpfpaaQ9
import Derived.Test.YtcbpgbiannpfpaaQ10
import Derived.Test.YtcbpgbiannpfpaaQ11
import Derived.Test.YtcbpgbiannpfpaaQ12
namespace Go.Proofs.Ytcbpgbiannpfpaa.fnExactCanPlayOn
open Go.ChangeShapes Go.WideShapes Go.ChangeAt Go.RowKit
open Go.ChangeMaps (open_string shut_string)
set_option linter.unusedVariables false

theorem own : ownKnob Try.prog.godebug = none := by kernel_rfl
theorem laidOut : laidOutB Try.prog = true := by kernel_rfl

set_option maxHeartbeats 4000000 in
set_option maxRecDepth 100000 in
theorem walk (vaRound : Value) (d_aRound : tPairS.D) (aDay : Int) (vaList : Value) (d_aList : tClosedS.D) (w : World) (h_aRound : RdA tPairS w [vaRound] d_aRound) (f_aRound : tPairS.fit d_aRound) (f_aDay : IntFit aDay) (h_aList : RdA tClosedS w [vaList] d_aList) (f_aList : tClosedS.fit d_aList) :
    Calls Try.prog 4 #[vaRound, .int .i64 aDay, vaList] w fun e w' => e = .returned (.bool true) ∧ Below w.heap.size w w' := by
  obtain ⟨r0, CS, CI⟩ : ∃ (r0 : Bool), Hid (∀ (vaRound : Value) (vaList : Value) (w1 : World), RdA tPairS w1 [vaRound] d_aRound → RdA tClosedS w1 [vaList] d_aList → tPairS.wt d_aRound ≤ 1048576 → tClosedS.wt d_aList ≤ 1048576 → Calls Try.prog 14 #[vaRound, .int .i64 aDay, vaList] w1 fun e w' => e = .returned (.bool r0) ∧ Below w1.heap.size w1 w') ∧ Hid (∀ (vaRound : Value) (vaList : Value) (w1 : World), RdA tPairS w1 [vaRound] d_aRound → RdA tClosedS w1 [vaList] d_aList → tPairS.wt d_aRound ≤ 1048576 → tClosedS.wt d_aList ≤ 1048576 → Calls Try.prog 16 #[vaRound, .int .i64 aDay, vaList] w1 fun e w' => e = .returned (.bool r0) ∧ Below w1.heap.size w1 w') := by
    exact ⟨_, fun v v2 w1 h h2 s s2 => canPlayOn_spec v d_aRound aDay v2 d_aList w1 h h2, fun v v2 w1 h h2 s s2 => canPlayOn_impl v d_aRound aDay v2 d_aList w1 h h2⟩
  have HB : Hid (Below w.heap.size w w) := Below.refl _ _
  have HA_aRound := Lib.hid h_aRound
  have HF_aRound := Lib.hid f_aRound
  clear h_aRound f_aRound
  have HA_aList := Lib.hid h_aList
  have HF_aList := Lib.hid f_aList
  clear h_aList f_aList
  go_enter Try.func4, Try.ntmps4
  go_wp2_with fail
  refine (y_sz_PairS (vaRound) d_aRound (1048576) _ (by omega) (by omega) (RdA.below HA_aRound.out HB.out)).mono ?_
  rintro e w1 ⟨⟨r1, rfl, hr1⟩, b1⟩
  have Z1 : Hid (w.heap.size ≤ w1.heap.size) := (by have := b1.size; show _ ≤ _; omega)
  replace HB := Lib.hid (HB.out.trans (b1.mono HB.out.size))
  by_cases hn1 : r1 < 0
  · have g2 : decide (r1 < 0) = true := decide_eq_true hn1
    clear hr1
    go_wp2
    go_ret
    exact ⟨rfl, HB.out⟩
  have g1 : decide (r1 < 0) = false := decide_eq_false hn1
  have SM_aRound : Hid (tPairS.wt d_aRound ≤ 1048576) := (by show _ ≤ _; omega)
  replace hn1 : 0 ≤ r1 ∧ r1 ≤ 1048576 := by omega
  clear hr1
  go_wp2_with fail
  refine (y_sz_ClosedS (vaList) d_aList (r1) _ (by omega) (by omega) (RdA.below HA_aList.out HB.out)).mono ?_
  rintro e w2 ⟨⟨r2, rfl, hr2⟩, b2⟩
  have Z2 : Hid (w1.heap.size ≤ w2.heap.size) := (by have := b2.size; show _ ≤ _; omega)
  replace HB := Lib.hid (HB.out.trans (b2.mono HB.out.size))
  by_cases hn2 : r2 < 0
  · have g2 : decide (r2 < 0) = true := decide_eq_true hn2
    clear hr2
    go_wp2
    go_ret
    exact ⟨rfl, HB.out⟩
  have g2 : decide (r2 < 0) = false := decide_eq_false hn2
  have SM_aList : Hid (tClosedS.wt d_aList ≤ 1048576) := (by show _ ≤ _; omega)
  replace hn2 : 0 ≤ r2 ∧ r2 ≤ 1048576 := by omega
  clear hr2
  go_wp2_with fail
  refine (y_to_PairS (vaRound) d_aRound _ (RdA.below HA_aRound.out HB.out) SM_aRound.out).mono ?_
  rintro e w3 ⟨vaRoundt1, rfl, ho, b3⟩
  have Z3 : Hid (w2.heap.size ≤ w3.heap.size) := (by have := b3.size; show _ ≤ _; omega)
  replace HB := Lib.hid (HB.out.trans (b3.mono HB.out.size))
  have OW_aRoundt1 := Lib.hid (ho.mono (lo' := w2.heap.size) (hi' := w3.heap.size) (by have := Z1.out; have := Z2.out; have := Z3.out; (try simp only [World.alloc, Array.size_push]); omega) (Nat.le_refl _) (Nat.le_refl _))
  clear ho
  go_wp2_with fail
  refine (y_to_ClosedS (vaList) d_aList _ (RdA.below HA_aList.out HB.out) SM_aList.out).mono ?_
  rintro e w4 ⟨vaListt2, rfl, ho, b4⟩
  have Z4 : Hid (w3.heap.size ≤ w4.heap.size) := (by have := b4.size; show _ ≤ _; omega)
  replace HB := Lib.hid (HB.out.trans (b4.mono HB.out.size))
  replace OW_aRoundt1 := Lib.hid (OW_aRoundt1.out.below b4)
  have OW_aListt2 := Lib.hid (ho.mono (lo' := w3.heap.size) (hi' := w4.heap.size) (by have := Z1.out; have := Z2.out; have := Z3.out; have := Z4.out; (try simp only [World.alloc, Array.size_push]); omega) (Nat.le_refl _) (Nat.le_refl _))
  clear ho
  go_wp2_with fail
  refine (CS.out (vaRoundt1) (vaListt2) _ OW_aRoundt1.out.rdA OW_aListt2.out.rdA SM_aRound.out SM_aList.out).mono ?_
  rintro e w5 ⟨rfl, b5⟩
  have Z5 : Hid (w4.heap.size ≤ w5.heap.size) := (by have := b5.size; show _ ≤ _; omega)
  replace HB := Lib.hid (HB.out.trans (b5.mono HB.out.size))
  replace OW_aRoundt1 := Lib.hid (OW_aRoundt1.out.below b5)
  replace OW_aListt2 := Lib.hid (OW_aListt2.out.below b5)
  clear OW_aRoundt1 OW_aListt2
  go_wp2_with fail
  refine (y_to_PairS (vaRound) d_aRound _ (RdA.below HA_aRound.out HB.out) SM_aRound.out).mono ?_
  rintro e w6 ⟨vaRoundx, rfl, ho, b6⟩
  have Z6 : Hid (w5.heap.size ≤ w6.heap.size) := (by have := b6.size; show _ ≤ _; omega)
  replace HB := Lib.hid (HB.out.trans (b6.mono HB.out.size))
  have OW_aRoundx := Lib.hid (ho.mono (lo' := w5.heap.size) (hi' := w6.heap.size) (by have := Z1.out; have := Z2.out; have := Z3.out; have := Z4.out; have := Z5.out; have := Z6.out; (try simp only [World.alloc, Array.size_push]); omega) (Nat.le_refl _) (Nat.le_refl _))
  clear ho
  go_wp2_with fail
  refine (y_to_ClosedS (vaList) d_aList _ (RdA.below HA_aList.out HB.out) SM_aList.out).mono ?_
  rintro e w7 ⟨vaListx, rfl, ho, b7⟩
  have Z7 : Hid (w6.heap.size ≤ w7.heap.size) := (by have := b7.size; show _ ≤ _; omega)
  replace HB := Lib.hid (HB.out.trans (b7.mono HB.out.size))
  replace OW_aRoundx := Lib.hid (OW_aRoundx.out.below b7)
  have OW_aListx := Lib.hid (ho.mono (lo' := w6.heap.size) (hi' := w7.heap.size) (by have := Z1.out; have := Z2.out; have := Z3.out; have := Z4.out; have := Z5.out; have := Z6.out; have := Z7.out; (try simp only [World.alloc, Array.size_push]); omega) (Nat.le_refl _) (Nat.le_refl _))
  clear ho
  go_wp2_with fail
  refine (CI.out (vaRoundx) (vaListx) _ OW_aRoundx.out.rdA OW_aListx.out.rdA SM_aRound.out SM_aList.out).mono ?_
  rintro e w8 ⟨rfl, b8⟩
  have Z8 : Hid (w7.heap.size ≤ w8.heap.size) := (by have := b8.size; show _ ≤ _; omega)
  replace HB := Lib.hid (HB.out.trans (b8.mono HB.out.size))
  replace OW_aRoundx := Lib.hid (OW_aRoundx.out.below b8)
  replace OW_aListx := Lib.hid (OW_aListx.out.below b8)
  go_wp2_with fail
  refine (y_to_PairS (vaRound) d_aRound _ (RdA.below HA_aRound.out HB.out) SM_aRound.out).mono ?_
  rintro e w9 ⟨vaRoundt3, rfl, ho, b9⟩
  have Z9 : Hid (w8.heap.size ≤ w9.heap.size) := (by have := b9.size; show _ ≤ _; omega)
  replace HB := Lib.hid (HB.out.trans (b9.mono HB.out.size))
  replace OW_aRoundx := Lib.hid (OW_aRoundx.out.below b9)
  replace OW_aListx := Lib.hid (OW_aListx.out.below b9)
  have OW_aRoundt3 := Lib.hid (ho.mono (lo' := w8.heap.size) (hi' := w9.heap.size) (by have := Z1.out; have := Z2.out; have := Z3.out; have := Z4.out; have := Z5.out; have := Z6.out; have := Z7.out; have := Z8.out; have := Z9.out; (try simp only [World.alloc, Array.size_push]); omega) (Nat.le_refl _) (Nat.le_refl _))
  clear ho
  go_wp2_with fail
  refine (y_eq_PairS (vaRoundx) (vaRoundt3) d_aRound _ OW_aRoundx.out.rdA OW_aRoundt3.out.rdA).mono ?_
  rintro e w10 ⟨rfl, b10⟩
  have Z10 : Hid (w9.heap.size ≤ w10.heap.size) := (by have := b10.size; show _ ≤ _; omega)
  replace HB := Lib.hid (HB.out.trans (b10.mono HB.out.size))
  replace OW_aRoundx := Lib.hid (OW_aRoundx.out.below b10)
  replace OW_aListx := Lib.hid (OW_aListx.out.below b10)
  replace OW_aRoundt3 := Lib.hid (OW_aRoundt3.out.below b10)
  clear OW_aRoundt3
  go_wp2_with fail
  refine (y_to_ClosedS (vaList) d_aList _ (RdA.below HA_aList.out HB.out) SM_aList.out).mono ?_
  rintro e w11 ⟨vaListt4, rfl, ho, b11⟩
  have Z11 : Hid (w10.heap.size ≤ w11.heap.size) := (by have := b11.size; show _ ≤ _; omega)
  replace HB := Lib.hid (HB.out.trans (b11.mono HB.out.size))
  replace OW_aRoundx := Lib.hid (OW_aRoundx.out.below b11)
  replace OW_aListx := Lib.hid (OW_aListx.out.below b11)
  have OW_aListt4 := Lib.hid (ho.mono (lo' := w10.heap.size) (hi' := w11.heap.size) (by have := Z1.out; have := Z2.out; have := Z3.out; have := Z4.out; have := Z5.out; have := Z6.out; have := Z7.out; have := Z8.out; have := Z9.out; have := Z10.out; have := Z11.out; (try simp only [World.alloc, Array.size_push]); omega) (Nat.le_refl _) (Nat.le_refl _))
  clear ho
  go_wp2_with fail
  refine (y_eq_ClosedS (vaListx) (vaListt4) d_aList _ OW_aListx.out.rdA OW_aListt4.out.rdA).mono ?_
  rintro e w12 ⟨rfl, b12⟩
  have Z12 : Hid (w11.heap.size ≤ w12.heap.size) := (by have := b12.size; show _ ≤ _; omega)
  replace HB := Lib.hid (HB.out.trans (b12.mono HB.out.size))
  replace OW_aRoundx := Lib.hid (OW_aRoundx.out.below b12)
  replace OW_aListx := Lib.hid (OW_aListx.out.below b12)
  replace OW_aListt4 := Lib.hid (OW_aListt4.out.below b12)
  clear OW_aListt4
  go_wp2
  go_ret
  exact ⟨rfl, HB.out⟩
set_option maxRecDepth 100000 in
theorem lifted (os : Os) (started : os.Started) (H : Type) (enc : TypeId × Value → H) :
    ReturnsInHanded {} Try.checked os 4 .any (Rows.fnExactCanPlayOnSpec.pre6 enc Try.prog Try.f4 Rows.fnExactCanPlayOnRow.domain false) (Rows.fnExactCanPlayOnSpec.post enc Try.prog Try.f4 false true false false) := by
  refine returnsInHanded_of_change (C := Try.checked) own started (by kernel_rfl) Try.func4
    (ChangeSpec.witness6 (enc := enc) (C := Try.checked) false ⟨#[], #[.slice none 0 0, .int .i64 0, .slice none 0 0], []⟩ 8 (by kernel_rfl) (by kernel_rfl) (by kernel_rfl) (by kernel_rfl)) ?_
  intro W base args ds gs before hval0 hW hcnd _
  have hval : ∀ (j : Nat) t v, Try.f4.params[j]? = some t → args[j]? = some v → Value.okWide Try.prog W .any base t v := hval0
  have hW' := hW
  obtain ⟨p, q, hA0, hV, rfl, hfz, hnd⟩ := hW
  have hA : DataW.TrodAll enc Try.prog W 0 (fun _ => true) true Try.f4.params.toList args.toList ds p := hA0
  rw [Try.params4] at hA hval
  obtain ⟨v0, vs0, d0, ds0, p0, q0, hargs, rfl, rfl, h0, r0⟩ := trodAll_cons hA
  obtain ⟨v1, vs1, d1, ds1, p1, q1, rfl, rfl, rfl, h1, r1⟩ := trodAll_cons r0
  obtain ⟨v2, vs2, d2, ds2, p2, q2, rfl, rfl, rfl, h2, r2⟩ := trodAll_cons r1
  obtain ⟨rfl, rfl, rfl⟩ := trodAll_nil r2
  obtain rfl : args = #[v0, v1, v2] := by cases args; simp_all
  obtain ⟨rfl, rfl⟩ := trodVars_none hV
  have k0 := h0
  have lt0 : ∀ x ∈ p0, x.block < W.heap.size := by obtain ⟨m, hm⟩ := k0; exact DataW.trod_lt m _ _ _ hm
  obtain ⟨x0, y0, f0⟩ := open_arg1 opens_PairS Try.underlying29 (hval 0 29 v0 rfl rfl) h0
  obtain ⟨a1, rfl, rfl, rfl, w1⟩ := open_int Try.underlying3 (hval 1 3 v1 rfl rfl) h1
  have k2 := h2
  have lt2 : ∀ x ∈ p2, x.block < W.heap.size := by obtain ⟨m, hm⟩ := k2; exact DataW.trod_lt m _ _ _ hm
  obtain ⟨x2, y2, f2⟩ := open_arg1 opens_ClosedS Try.underlying22 (hval 2 22 v2 rfl rfl) h2
  clear hA0 hval0
  simp only [List.append_nil] at hW'
  refine (walk v0 x0 a1 v2 x2 W y0 f0 (intFit_of w1) y2 f2).mono fun e W' ⟨he, bel⟩ => ?_
  subst he
  exact ⟨_, rfl, _, _, _, [], _, [], hW', trodAll_mk1 (shut_bool Try.underlying4 _), (trodAll_cons_mk (Below.trod laidOut (by kernel_rfl) (of_decide_eq_true (by kernel_rfl)) k0 bel lt0) (trodAll_cons_mk (shut_int Try.underlying3 w1) (trodAll_cons_mk (Below.trod laidOut (by kernel_rfl) (of_decide_eq_true (by kernel_rfl)) k2 bel lt2) trodAll_mk0))), rfl, bel.frame _, fun h => by cases h⟩

theorem over : Rows.fnExactCanPlayOnRow.holds Try.pinned (OpenSpec.ofChange Rows.fnExactCanPlayOnSpec) :=
  OpenClaim.holds_of_wide 4 Try.f4 rfl rfl rfl rfl rfl rfl rfl ⟨rfl, rfl, rfl, rfl, rfl⟩ rfl rfl rfl rfl rfl (by kernel_rfl) Try.func4 (by kernel_rfl)
    (of_decide_eq_true (by kernel_rfl)) (by unfold Func.isWrapper; first | (rw [if_pos (by decide +kernel)]; kernel_rfl) | (rw [if_neg (by decide +kernel)]; exact ⟨rfl, rfl⟩))
    (fun os started H enc _ => lifted os started H enc)

theorem proved : Rows.FnExactCanPlayOnSaid := over
end Go.Proofs.Ytcbpgbiannpfpaa.fnExactCanPlayOn
