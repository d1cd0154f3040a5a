/-
  The law FnExactClosedOk holds for every argument: the program answers as the model does.
-/
import Derived.Test.YtcbpgbiannpfpaaRows
import Derived.WalkKit
import Derived.ProofKit
import Derived.OpenShut
import Derived.ShutString
import Derived.ChangeOld
import Derived.Below
import Derived.Lib.Hide
import Derived.Deep.RegionHeld3
import Derived.Test.YtcbpgbiannpfpaaQ1
import Derived.Test.YtcbpgbiannpfpaaQ2
import Derived.Test.YtcbpgbiannpfpaaQ4
import Derived.Test.YtcbpgbiannpfpaaQ7
import Derived.Test.YtcbpgbiannpfpaaQ9
import Derived.Test.YtcbpgbiannpfpaaQ10
import Derived.Test.YtcbpgbiannpfpaaQ11
import Derived.Test.YtcbpgbiannpfpaaQ12
namespace Go.Proofs.Ytcbpgbiannpfpaa.fnExactClosedOk
open Go.ChangeShapes Go.WideShapes Go.ChangeAt Go.RowKit
open Go.ChangeMaps (open_string shut_string)
set_option linter.unusedVariables false

theorem own : ownKnob Try.prog.godebug = none := by kernel_rfl
theorem laidOut : laidOutB Try.prog = true := by kernel_rfl

set_option maxHeartbeats 4000000 in
set_option maxRecDepth 100000 in
theorem walk (aN : Int) (vaList : Value) (d_aList : tClosedS.D) (w : World) (f_aN : IntFit aN) (h_aList : RdA tClosedS w [vaList] d_aList) (f_aList : tClosedS.fit d_aList) :
    Calls Try.prog 3 #[.int .i64 aN, vaList] w fun e w' => e = .returned (.bool true) ∧ Below w.heap.size w w' := by
  obtain ⟨r0, CS, CI⟩ : ∃ (r0 : Bool), Hid (∀ (vaList : Value) (w1 : World), RdA tClosedS w1 [vaList] d_aList → tClosedS.wt d_aList ≤ 1048576 → Calls Try.prog 9 #[.int .i64 aN, vaList] w1 fun e w' => e = .returned (.bool r0) ∧ Below w1.heap.size w1 w') ∧ Hid (∀ (vaList : Value) (w1 : World), RdA tClosedS w1 [vaList] d_aList → tClosedS.wt d_aList ≤ 1048576 → Calls Try.prog 11 #[.int .i64 aN, vaList] w1 fun e w' => e = .returned (.bool r0) ∧ Below w1.heap.size w1 w') := by
    obtain ⟨R, hR⟩ := boolEx (closedP aN d_aList)
    exact ⟨R, fun v w1 h s => closedOk_spec aN v d_aList R w1 hR h, fun v w1 h s => closedOk_impl aN v d_aList R w1 hR h⟩
  have HB : Hid (Below w.heap.size w w) := Below.refl _ _
  have HA_aList := Lib.hid h_aList
  have HF_aList := Lib.hid f_aList
  clear h_aList f_aList
  go_enter Try.func3, Try.ntmps3
  go_wp2_with fail
  refine (y_sz_ClosedS (vaList) d_aList (1048576) _ (by omega) (by omega) (RdA.below HA_aList.out HB.out)).mono ?_
  rintro e w1 ⟨⟨r1, rfl, hr1⟩, b1⟩
  have Z1 : Hid (w.heap.size ≤ w1.heap.size) := (by have := b1.size; show _ ≤ _; omega)
  replace HB := Lib.hid (HB.out.trans (b1.mono HB.out.size))
  by_cases hn1 : r1 < 0
  · have g2 : decide (r1 < 0) = true := decide_eq_true hn1
    clear hr1
    go_wp2
    go_ret
    exact ⟨rfl, HB.out⟩
  have g1 : decide (r1 < 0) = false := decide_eq_false hn1
  have SM_aList : Hid (tClosedS.wt d_aList ≤ 1048576) := (by show _ ≤ _; omega)
  replace hn1 : 0 ≤ r1 ∧ r1 ≤ 1048576 := by omega
  clear hr1
  go_wp2_with fail
  refine (y_to_ClosedS (vaList) d_aList _ (RdA.below HA_aList.out HB.out) SM_aList.out).mono ?_
  rintro e w2 ⟨vaListt1, rfl, ho, b2⟩
  have Z2 : Hid (w1.heap.size ≤ w2.heap.size) := (by have := b2.size; show _ ≤ _; omega)
  replace HB := Lib.hid (HB.out.trans (b2.mono HB.out.size))
  have OW_aListt1 := Lib.hid (ho.mono (lo' := w1.heap.size) (hi' := w2.heap.size) (by have := Z1.out; have := Z2.out; (try simp only [World.alloc, Array.size_push]); omega) (Nat.le_refl _) (Nat.le_refl _))
  clear ho
  go_wp2_with fail
  refine (CS.out (vaListt1) _ OW_aListt1.out.rdA SM_aList.out).mono ?_
  rintro e w3 ⟨rfl, b3⟩
  have Z3 : Hid (w2.heap.size ≤ w3.heap.size) := (by have := b3.size; show _ ≤ _; omega)
  replace HB := Lib.hid (HB.out.trans (b3.mono HB.out.size))
  replace OW_aListt1 := Lib.hid (OW_aListt1.out.below b3)
  clear OW_aListt1
  go_wp2_with fail
  refine (y_to_ClosedS (vaList) d_aList _ (RdA.below HA_aList.out HB.out) SM_aList.out).mono ?_
  rintro e w4 ⟨vaListx, rfl, ho, b4⟩
  have Z4 : Hid (w3.heap.size ≤ w4.heap.size) := (by have := b4.size; show _ ≤ _; omega)
  replace HB := Lib.hid (HB.out.trans (b4.mono HB.out.size))
  have OW_aListx := Lib.hid (ho.mono (lo' := w3.heap.size) (hi' := w4.heap.size) (by have := Z1.out; have := Z2.out; have := Z3.out; have := Z4.out; (try simp only [World.alloc, Array.size_push]); omega) (Nat.le_refl _) (Nat.le_refl _))
  clear ho
  go_wp2_with fail
  refine (CI.out (vaListx) _ OW_aListx.out.rdA SM_aList.out).mono ?_
  rintro e w5 ⟨rfl, b5⟩
  have Z5 : Hid (w4.heap.size ≤ w5.heap.size) := (by have := b5.size; show _ ≤ _; omega)
  replace HB := Lib.hid (HB.out.trans (b5.mono HB.out.size))
  replace OW_aListx := Lib.hid (OW_aListx.out.below b5)
  go_wp2_with fail
  refine (y_to_ClosedS (vaList) d_aList _ (RdA.below HA_aList.out HB.out) SM_aList.out).mono ?_
  rintro e w6 ⟨vaListt2, rfl, ho, b6⟩
  have Z6 : Hid (w5.heap.size ≤ w6.heap.size) := (by have := b6.size; show _ ≤ _; omega)
  replace HB := Lib.hid (HB.out.trans (b6.mono HB.out.size))
  replace OW_aListx := Lib.hid (OW_aListx.out.below b6)
  have OW_aListt2 := Lib.hid (ho.mono (lo' := w5.heap.size) (hi' := w6.heap.size) (by have := Z1.out; have := Z2.out; have := Z3.out; have := Z4.out; have := Z5.out; have := Z6.out; (try simp only [World.alloc, Array.size_push]); omega) (Nat.le_refl _) (Nat.le_refl _))
  clear ho
  go_wp2_with fail
  refine (y_eq_ClosedS (vaListx) (vaListt2) d_aList _ OW_aListx.out.rdA OW_aListt2.out.rdA).mono ?_
  rintro e w7 ⟨rfl, b7⟩
  have Z7 : Hid (w6.heap.size ≤ w7.heap.size) := (by have := b7.size; show _ ≤ _; omega)
  replace HB := Lib.hid (HB.out.trans (b7.mono HB.out.size))
  replace OW_aListx := Lib.hid (OW_aListx.out.below b7)
  replace OW_aListt2 := Lib.hid (OW_aListt2.out.below b7)
  clear OW_aListt2
  go_wp2
  go_ret
  exact ⟨rfl, HB.out⟩
set_option maxRecDepth 100000 in
theorem lifted (os : Os) (started : os.Started) (H : Type) (enc : TypeId × Value → H) :
    ReturnsInHanded {} Try.checked os 3 .any (Rows.fnExactClosedOkSpec.pre6 enc Try.prog Try.f3 Rows.fnExactClosedOkRow.domain false) (Rows.fnExactClosedOkSpec.post enc Try.prog Try.f3 false true false false) := by
  refine returnsInHanded_of_change (C := Try.checked) own started (by kernel_rfl) Try.func3
    (ChangeSpec.witness6 (enc := enc) (C := Try.checked) false ⟨#[], #[.int .i64 0, .slice none 0 0], []⟩ 8 (by kernel_rfl) (by kernel_rfl) (by kernel_rfl) (by kernel_rfl)) ?_
  intro W base args ds gs before hval0 hW hcnd _
  have hval : ∀ (j : Nat) t v, Try.f3.params[j]? = some t → args[j]? = some v → Value.okWide Try.prog W .any base t v := hval0
  have hW' := hW
  obtain ⟨p, q, hA0, hV, rfl, hfz, hnd⟩ := hW
  have hA : DataW.TrodAll enc Try.prog W 0 (fun _ => true) true Try.f3.params.toList args.toList ds p := hA0
  rw [Try.params3] at hA hval
  obtain ⟨v0, vs0, d0, ds0, p0, q0, hargs, rfl, rfl, h0, r0⟩ := trodAll_cons hA
  obtain ⟨v1, vs1, d1, ds1, p1, q1, rfl, rfl, rfl, h1, r1⟩ := trodAll_cons r0
  obtain ⟨rfl, rfl, rfl⟩ := trodAll_nil r1
  obtain rfl : args = #[v0, v1] := by cases args; simp_all
  obtain ⟨rfl, rfl⟩ := trodVars_none hV
  obtain ⟨a0, rfl, rfl, rfl, w0⟩ := open_int Try.underlying3 (hval 0 3 v0 rfl rfl) h0
  have k1 := h1
  have lt1 : ∀ x ∈ p1, x.block < W.heap.size := by obtain ⟨m, hm⟩ := k1; exact DataW.trod_lt m _ _ _ hm
  obtain ⟨x1, y1, f1⟩ := open_arg1 opens_ClosedS Try.underlying22 (hval 1 22 v1 rfl rfl) h1
  clear hA0 hval0
  simp only [List.append_nil] at hW'
  refine (walk a0 v1 x1 W (intFit_of w0) y1 f1).mono fun e W' ⟨he, bel⟩ => ?_
  subst he
  exact ⟨_, rfl, _, _, _, [], _, [], hW', trodAll_mk1 (shut_bool Try.underlying4 _), (trodAll_cons_mk (shut_int Try.underlying3 w0) (trodAll_cons_mk (Below.trod laidOut (by kernel_rfl) (of_decide_eq_true (by kernel_rfl)) k1 bel lt1) trodAll_mk0)), rfl, bel.frame _, fun h => by cases h⟩

theorem over : Rows.fnExactClosedOkRow.holds Try.pinned (OpenSpec.ofChange Rows.fnExactClosedOkSpec) :=
  OpenClaim.holds_of_wide 3 Try.f3 rfl rfl rfl rfl rfl rfl rfl ⟨rfl, rfl, rfl, rfl, rfl⟩ rfl rfl rfl rfl rfl (by kernel_rfl) Try.func3 (by kernel_rfl)
    (of_decide_eq_true (by kernel_rfl)) (by unfold Func.isWrapper; first | (rw [if_pos (by decide +kernel)]; kernel_rfl) | (rw [if_neg (by decide +kernel)]; exact ⟨rfl, rfl⟩))
    (fun os started H enc _ => lifted os started H enc)

theorem proved : Rows.FnExactClosedOkSaid := over
end Go.Proofs.Ytcbpgbiannpfpaa.fnExactClosedOk
