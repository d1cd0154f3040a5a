/-
  The law FnExactFirstCalendar holds for every argument, where the program's own sentinel is as its text lays it (the card ties that to the text).
-/
import Derived.Test.YtcbpgbiannpfpaaDoorCards
import Derived.Test.YtcbpgbiannpfpaaDoorTie
import Derived.WalkKit
import Derived.ProofKit
import Derived.OpenShut
import Derived.ShutString
import Derived.ChangeOld
import Derived.Below
import Derived.Lib.Hide
import Derived.Deep.DeepHandedRow
import Derived.Deep.DeepWitnessRowRef
import Derived.Lib.LaidTab
import Derived.LaidSub
import Derived.WalkSmall
import Derived.Deep.RegionHeld3
import Derived.Test.YtcbpgbiannpfpaaDoorQ1
import Derived.Test.YtcbpgbiannpfpaaDoorQ2
import Derived.Test.YtcbpgbiannpfpaaDoorQ3
import Derived.Test.YtcbpgbiannpfpaaDoorQ4
import Derived.Test.YtcbpgbiannpfpaaDoorQ7
import Derived.Test.YtcbpgbiannpfpaaDoorQ9
import Derived.Test.YtcbpgbiannpfpaaDoorQ10
import Derived.Test.YtcbpgbiannpfpaaDoorQ11
import Derived.Test.YtcbpgbiannpfpaaDoorQ12
import Derived.Test.YtcbpgbiannpfpaaDoorQ14
import Derived.Test.YtcbpgbiannpfpaaDoorQ15
namespace Go.Proofs.YtcbpgbiannpfpaaDoor.fnExactFirstCalendar
open Go.ChangeShapes Go.WideShapes Go.ChangeAt Go.RowKit
open Go.ChangeMaps (open_string shut_string)
set_option linter.unusedVariables false

theorem own : ownKnob Tryd.prog.godebug = none := by kernel_rfl
theorem laidOut : laidOutB Tryd.prog = true := by kernel_rfl
def nmAt (i : Nat) : String := (Rows.fnExactFirstCalendarRow.laid.map (·.1)).getD i (String.ofList [])
theorem gErr : Tryd.prog.globalNamed (nmAt 0) = some 0 := by kernel_rfl
theorem gErrType : (Tryd.prog.globals[0]?).map (·.type) = some 56 := by kernel_rfl
theorem star : "*errors.errorString" = "*" ++ "errors.errorString" := by decide
theorem rowErr (u : TypeId) (h : Tryd.prog.typeName? 3 u = some "*errors.errorString") : u = 133 :=
  typeName_ptr_named (nm := "errors.errorString") (by rw [← star]; kernel_rfl) (by kernel_rfl) (by decide) u (by rw [← star]; exact h)
theorem cErr : Tryd.prog.cellsOf 159 = 1 := by kernel_rfl
theorem cStr : Tryd.prog.cellsOf 9 = 1 := by kernel_rfl
theorem errAt {W : World} (h : laidMetH Tryd.prog Rows.fnExactFirstCalendarRow.laid W) : ∃ a, ErrAt W a := by
  obtain ⟨a, s, hv, _⟩ := laid_sentinel (n := nmAt 0) (r := []) (laidMetH.filter (l := Rows.fnExactFirstCalendarRow.laid) (fun x => x.1 == nmAt 0) h) gErr gErrType Tryd.underlying56 rowErr Tryd.underlying133 Tryd.underlying159 rfl rfl Tryd.underlying9 cErr cStr
  exact ⟨a, at_of_var gErr hv⟩
noncomputable def laidWorld (os : Os) : World :=
  let w0 := World.holding Tryd.prog os ⟨#[], #[], []⟩
  let h2 := putAt w0.heap 0 #[.iface 133 (.pointer (some ⟨w0.heap.size, 0, none⟩))]
  { w0 with heap := h2.push (.cells #[.string (textOf Rows.laid_loop_example_g00834_impl_errNoDay)] 159) }

set_option maxHeartbeats 4000000 in
set_option maxRecDepth 100000 in
theorem walk (aN : Int) (vaS_Rounds : Value) (vaS_Days : Value) (aS_Rest : Int) (vaS_Closed : Value) (d_aS : tSeason.D) (ea : Addr) (w : World) (f_aN : IntFit aN) (h_aS : RdA tSeason w [vaS_Rounds, vaS_Days, .int .i64 aS_Rest, vaS_Closed] d_aS) (f_aS : tSeason.fit d_aS) (htab : ErrAt w ea) :
    Calls Tryd.prog 4 #[.int .i64 aN, .agg #[vaS_Rounds, vaS_Days, .int .i64 aS_Rest, vaS_Closed]] w fun e w' => e = .returned (.bool true) ∧ Below w.heap.size w w' := by
  obtain ⟨d_r0, r1, nb0, CS, CI⟩ : ∃ (d_r0 : tIntS.D) (r1 : Bool), (tSeason.wt d_aS ≤ 1048576 → tIntS.mks d_r0 ≤ 100000000000) ∧ Hid (∀ (vaS_Rounds : Value) (vaS_Days : Value) (vaS_Closed : Value) (w1 : World), RdA tSeason w1 [vaS_Rounds, vaS_Days, .int .i64 aS_Rest, vaS_Closed] d_aS → tSeason.wt d_aS ≤ 1048576 → Calls Tryd.prog 15 #[.int .i64 aN, .agg #[vaS_Rounds, vaS_Days, .int .i64 aS_Rest, vaS_Closed]] w1 fun e w' => ∃ vr0 : Value, e = .returned (.tuple #[vr0, .bool r1]) ∧ OwN tIntS w' w1.heap.size w'.heap.size [vr0] d_r0 ∧ Below w1.heap.size w1 w') ∧ Hid (∀ (vaS_Rounds : Value) (vaS_Days : Value) (vaS_Closed : Value) (w1 : World), RdA tSeason w1 [vaS_Rounds, vaS_Days, .int .i64 aS_Rest, vaS_Closed] d_aS → tSeason.wt d_aS ≤ 1048576 → ErrAt w1 ea → Calls Tryd.prog 7 #[.int .i64 aN, .agg #[vaS_Rounds, vaS_Days, .int .i64 aS_Rest, vaS_Closed]] w1 fun e w' => ∃ vr0 : Value, e = .returned (.tuple #[vr0, .bool r1]) ∧ OwN tIntS w' w1.heap.size w'.heap.size [vr0] d_r0 ∧ Below w1.heap.size w1 w') := by
    obtain ⟨R, hR⟩ := boolEx (seaP aN d_aS.1 d_aS.2.1 aS_Rest d_aS.2.2.2)
    exact ⟨_, _, fun s => marks_cal (sea_len s), fun v0 v1 v2 w1 h s => (firstCalendar_spec aN v0 v1 aS_Rest v2 d_aS.1 d_aS.2.1 d_aS.2.2.2 R w1 hR (sea_rd h).1 (sea_rd h).2.1 (sea_rd h).2.2 (sea_wt s)).mono fun e w' h => h.owN, fun v0 v1 v2 w1 h s e => (firstCalendar_impl aN v0 v1 aS_Rest v2 d_aS.1 d_aS.2.1 d_aS.2.2.2 R ea w1 hR (sea_rd h).1 (sea_rd h).2.1 (sea_rd h).2.2 (sea_wt s) e).mono fun e w' h => h.owN⟩
  have HTAB := Lib.hid htab
  clear htab
  have HB : Hid (Below w.heap.size w w) := Below.refl _ _
  have HNB0 := Lib.hid nb0
  clear nb0
  have HA_aS := Lib.hid h_aS
  have HF_aS := Lib.hid f_aS
  clear h_aS f_aS
  have hsp := HA_aS.out
  obtain ⟨avaS_Rounds, nvaS_Rounds, kvaS_Rounds, hvaS_Rounds⟩ := rd_slice (rd_splitB hsp).1
  replace hsp := (rd_splitB hsp).2
  obtain ⟨avaS_Days, nvaS_Days, kvaS_Days, hvaS_Days⟩ := rd_slice (rd_splitB hsp).1
  replace hsp := (rd_splitB hsp).2
  replace hsp := (rd_splitB hsp).2
  obtain ⟨avaS_Closed, nvaS_Closed, kvaS_Closed, hvaS_Closed⟩ := rd_slice hsp
  clear hsp
  subst hvaS_Rounds
  subst hvaS_Days
  subst hvaS_Closed
  replace HB := Lib.hid (HB.out.trans (((Below.refl w.heap.size w).alloc (Nat.le_refl _) (.cells #[.slice avaS_Rounds nvaS_Rounds kvaS_Rounds, .slice avaS_Days nvaS_Days kvaS_Days, .int .i64 aS_Rest, .slice avaS_Closed nvaS_Closed kvaS_Closed] 42)).mono HB.out.size))
  have BX_aS : Hid (BoxN (w.alloc (.cells #[.slice avaS_Rounds nvaS_Rounds kvaS_Rounds, .slice avaS_Days nvaS_Days kvaS_Days, .int .i64 aS_Rest, .slice avaS_Closed nvaS_Closed kvaS_Closed] 42)) (w.heap.size) [.slice avaS_Rounds nvaS_Rounds kvaS_Rounds, .slice avaS_Days nvaS_Days kvaS_Days, .int .i64 aS_Rest, .slice avaS_Closed nvaS_Closed kvaS_Closed]) := BoxN.made (Below.refl _ _) (by first | rfl | simp | (simp; done))
  go_enter Tryd.func4, Tryd.ntmps4
  have caS_0 := BX_aS.out.2 0 _ rfl
  have caS_1 := BX_aS.out.2 1 _ rfl
  have caS_2 := BX_aS.out.2 2 _ rfl
  have caS_3 := BX_aS.out.2 3 _ rfl
  have caS_lt := BX_aS.out.1
  go_wp2_with fail
  refine (y_sz_Season (.slice avaS_Rounds nvaS_Rounds kvaS_Rounds) (.slice avaS_Days nvaS_Days kvaS_Days) aS_Rest (.slice avaS_Closed nvaS_Closed kvaS_Closed) d_aS (1048576) _ (by omega) (by omega) (RdA.below HA_aS.out HB.out)).mono ?_
  rintro e w1 ⟨⟨r1, rfl, hr1⟩, b1⟩
  clear caS_0 caS_1 caS_2 caS_3 caS_lt
  have Z1 : Hid (w.heap.size + 1 ≤ w1.heap.size) := (by have := b1.size; simp at this; show _ ≤ _; omega)
  replace HB := Lib.hid (HB.out.trans (b1.mono HB.out.size))
  replace BX_aS := Lib.hid (BX_aS.out.below b1)
  by_cases hn1 : r1 < 0
  · have g2 : decide (r1 < 0) = true := decide_eq_true hn1
    clear hr1
    go_wp2
    go_ret
    exact ⟨rfl, HB.out⟩
  have g1 : decide (r1 < 0) = false := decide_eq_false hn1
  have SM_aS : Hid (tSeason.wt d_aS ≤ 1048576) := (by show _ ≤ _; omega)
  replace hn1 : 0 ≤ r1 ∧ r1 ≤ 1048576 := by omega
  clear hr1
  have caS_0 := BX_aS.out.2 0 _ rfl
  have caS_1 := BX_aS.out.2 1 _ rfl
  have caS_2 := BX_aS.out.2 2 _ rfl
  have caS_3 := BX_aS.out.2 3 _ rfl
  have caS_lt := BX_aS.out.1
  go_wp2_with fail
  refine (y_to_Season (.slice avaS_Rounds nvaS_Rounds kvaS_Rounds) (.slice avaS_Days nvaS_Days kvaS_Days) aS_Rest (.slice avaS_Closed nvaS_Closed kvaS_Closed) d_aS _ (RdA.below HA_aS.out HB.out) SM_aS.out).mono ?_
  rintro e w2 ⟨vaS_Roundst1, vaS_Dayst1, vaS_Closedt1, rfl, ho, b2⟩
  clear caS_0 caS_1 caS_2 caS_3 caS_lt
  have Z2 : Hid (w1.heap.size ≤ w2.heap.size) := (by have := b2.size; show _ ≤ _; omega)
  replace HB := Lib.hid (HB.out.trans (b2.mono HB.out.size))
  replace BX_aS := Lib.hid (BX_aS.out.below b2)
  have OW_aSt1 := Lib.hid (ho.mono (lo' := w1.heap.size) (hi' := w2.heap.size) (by have := Z1.out; have := Z2.out; (try simp only [World.alloc, Array.size_push]); omega) (Nat.le_refl _) (Nat.le_refl _))
  clear ho
  go_wp2_with fail
  refine (CS.out (vaS_Roundst1) (vaS_Dayst1) (vaS_Closedt1) _ OW_aSt1.out.rdA SM_aS.out).mono ?_
  rintro e w3 ⟨vr0s, rfl, ho, b3⟩
  have Z3 : Hid (w2.heap.size ≤ w3.heap.size) := (by have := b3.size; show _ ≤ _; omega)
  replace HB := Lib.hid (HB.out.trans (b3.mono HB.out.size))
  replace BX_aS := Lib.hid (BX_aS.out.below b3)
  replace OW_aSt1 := Lib.hid (OW_aSt1.out.below b3)
  clear OW_aSt1
  have OW_r0s := Lib.hid (ho.mono (lo' := w1.heap.size) (hi' := w3.heap.size) (by have := Z1.out; have := Z2.out; have := Z3.out; (try simp only [World.alloc, Array.size_push]); omega) (Nat.le_refl _) (Nat.le_refl _))
  clear ho
  have caS_0 := BX_aS.out.2 0 _ rfl
  have caS_1 := BX_aS.out.2 1 _ rfl
  have caS_2 := BX_aS.out.2 2 _ rfl
  have caS_3 := BX_aS.out.2 3 _ rfl
  have caS_lt := BX_aS.out.1
  go_wp2_with fail
  refine (y_to_Season (.slice avaS_Rounds nvaS_Rounds kvaS_Rounds) (.slice avaS_Days nvaS_Days kvaS_Days) aS_Rest (.slice avaS_Closed nvaS_Closed kvaS_Closed) d_aS _ (RdA.below HA_aS.out HB.out) SM_aS.out).mono ?_
  rintro e w4 ⟨vaS_Roundsx, vaS_Daysx, vaS_Closedx, rfl, ho, b4⟩
  clear caS_0 caS_1 caS_2 caS_3 caS_lt
  have Z4 : Hid (w3.heap.size ≤ w4.heap.size) := (by have := b4.size; show _ ≤ _; omega)
  replace HB := Lib.hid (HB.out.trans (b4.mono HB.out.size))
  replace BX_aS := Lib.hid (BX_aS.out.below b4)
  replace OW_r0s := Lib.hid (OW_r0s.out.below b4)
  have OW_aSx := Lib.hid (ho.mono (lo' := w3.heap.size) (hi' := w4.heap.size) (by have := Z1.out; have := Z2.out; have := Z3.out; have := Z4.out; (try simp only [World.alloc, Array.size_push]); omega) (Nat.le_refl _) (Nat.le_refl _))
  clear ho
  have hsp := OW_aSx.out.rd
  obtain ⟨avaS_Roundsx, nvaS_Roundsx, kvaS_Roundsx, hvaS_Roundsx⟩ := rd_slice (rd_splitB hsp).1
  replace hsp := (rd_splitB hsp).2
  obtain ⟨avaS_Daysx, nvaS_Daysx, kvaS_Daysx, hvaS_Daysx⟩ := rd_slice (rd_splitB hsp).1
  replace hsp := (rd_splitB hsp).2
  replace hsp := (rd_splitB hsp).2
  obtain ⟨avaS_Closedx, nvaS_Closedx, kvaS_Closedx, hvaS_Closedx⟩ := rd_slice hsp
  clear hsp
  subst hvaS_Roundsx
  subst hvaS_Daysx
  subst hvaS_Closedx
  replace HB := Lib.hid (HB.out.trans (((Below.refl w4.heap.size w4).alloc (Nat.le_refl _) (.cells #[.slice avaS_Roundsx nvaS_Roundsx kvaS_Roundsx, .slice avaS_Daysx nvaS_Daysx kvaS_Daysx, .int .i64 aS_Rest, .slice avaS_Closedx nvaS_Closedx kvaS_Closedx] 27)).mono HB.out.size))
  replace BX_aS := Lib.hid (BX_aS.out.below ((Below.refl w4.heap.size w4).alloc (Nat.le_refl _) (.cells #[.slice avaS_Roundsx nvaS_Roundsx kvaS_Roundsx, .slice avaS_Daysx nvaS_Daysx kvaS_Daysx, .int .i64 aS_Rest, .slice avaS_Closedx nvaS_Closedx kvaS_Closedx] 27)))
  replace OW_r0s := Lib.hid (OW_r0s.out.below ((Below.refl w4.heap.size w4).alloc (Nat.le_refl _) (.cells #[.slice avaS_Roundsx nvaS_Roundsx kvaS_Roundsx, .slice avaS_Daysx nvaS_Daysx kvaS_Daysx, .int .i64 aS_Rest, .slice avaS_Closedx nvaS_Closedx kvaS_Closedx] 27)))
  replace OW_aSx := Lib.hid (OW_aSx.out.below ((Below.refl w4.heap.size w4).alloc (Nat.le_refl _) (.cells #[.slice avaS_Roundsx nvaS_Roundsx kvaS_Roundsx, .slice avaS_Daysx nvaS_Daysx kvaS_Daysx, .int .i64 aS_Rest, .slice avaS_Closedx nvaS_Closedx kvaS_Closedx] 27)))
  have BX_aSx : Hid (BoxN (w4.alloc (.cells #[.slice avaS_Roundsx nvaS_Roundsx kvaS_Roundsx, .slice avaS_Daysx nvaS_Daysx kvaS_Daysx, .int .i64 aS_Rest, .slice avaS_Closedx nvaS_Closedx kvaS_Closedx] 27)) (w4.heap.size) [.slice avaS_Roundsx nvaS_Roundsx kvaS_Roundsx, .slice avaS_Daysx nvaS_Daysx kvaS_Daysx, .int .i64 aS_Rest, .slice avaS_Closedx nvaS_Closedx kvaS_Closedx]) := BoxN.made (Below.refl _ _) (by first | rfl | simp | (simp; done))
  have caSx_0 := BX_aSx.out.2 0 _ rfl
  have caSx_1 := BX_aSx.out.2 1 _ rfl
  have caSx_2 := BX_aSx.out.2 2 _ rfl
  have caSx_3 := BX_aSx.out.2 3 _ rfl
  have caSx_lt := BX_aSx.out.1
  go_wp2_with fail
  refine (CI.out (.slice avaS_Roundsx nvaS_Roundsx kvaS_Roundsx) (.slice avaS_Daysx nvaS_Daysx kvaS_Daysx) (.slice avaS_Closedx nvaS_Closedx kvaS_Closedx) _ OW_aSx.out.rdA SM_aS.out (VarAt.below HTAB.out HB.out (Nat.le_refl _))).mono ?_
  rintro e w5 ⟨vr0i, rfl, ho, b5⟩
  clear caSx_0 caSx_1 caSx_2 caSx_3 caSx_lt
  have Z5 : Hid (w4.heap.size + 1 ≤ w5.heap.size) := (by have := b5.size; simp at this; show _ ≤ _; omega)
  replace HB := Lib.hid (HB.out.trans (b5.mono HB.out.size))
  replace BX_aS := Lib.hid (BX_aS.out.below b5)
  replace OW_r0s := Lib.hid (OW_r0s.out.below b5)
  replace OW_aSx := Lib.hid (OW_aSx.out.below b5)
  replace BX_aSx := Lib.hid (BX_aSx.out.below b5)
  have OW_r0i := Lib.hid (ho.mono (lo' := w4.heap.size + 1) (hi' := w5.heap.size) (by have := Z1.out; have := Z2.out; have := Z3.out; have := Z4.out; have := Z5.out; (try simp only [World.alloc, Array.size_push]); omega) (Nat.le_refl _) (Nat.le_refl _))
  clear ho
  go_wp2_with fail
  refine (y_eq_IntS (vr0i) (vr0s) d_r0 _ OW_r0i.out.rdA OW_r0s.out.rdA).mono ?_
  rintro e w6 ⟨rfl, b6⟩
  have Z6 : Hid (w5.heap.size ≤ w6.heap.size) := (by have := b6.size; show _ ≤ _; omega)
  replace HB := Lib.hid (HB.out.trans (b6.mono HB.out.size))
  replace BX_aS := Lib.hid (BX_aS.out.below b6)
  replace OW_r0s := Lib.hid (OW_r0s.out.below b6)
  replace OW_aSx := Lib.hid (OW_aSx.out.below b6)
  replace BX_aSx := Lib.hid (BX_aSx.out.below b6)
  replace OW_r0i := Lib.hid (OW_r0i.out.below b6)
  have LE : Hid (w6.heap.size ≤ w6.heap.size) := (by show _ ≤ _; first | exact Nat.le_refl _ | simp)
  obtain ⟨S, HSd⟩ : ∃ S : World → Prop, S = fun w' => Below w.heap.size w w' ∧ BoxN w' (w.heap.size) [.slice avaS_Rounds nvaS_Rounds kvaS_Rounds, .slice avaS_Days nvaS_Days kvaS_Days, .int .i64 aS_Rest, .slice avaS_Closed nvaS_Closed kvaS_Closed] ∧ OwN tIntS w' (w1.heap.size) (w3.heap.size) [vr0s] d_r0 ∧ OwN tSeason w' (w3.heap.size) (w4.heap.size) [.slice avaS_Roundsx nvaS_Roundsx kvaS_Roundsx, .slice avaS_Daysx nvaS_Daysx kvaS_Daysx, .int .i64 aS_Rest, .slice avaS_Closedx nvaS_Closedx kvaS_Closedx] d_aS ∧ BoxN w' (w4.heap.size) [.slice avaS_Roundsx nvaS_Roundsx kvaS_Roundsx, .slice avaS_Daysx nvaS_Daysx kvaS_Daysx, .int .i64 aS_Rest, .slice avaS_Closedx nvaS_Closedx kvaS_Closedx] ∧ OwN tIntS w' (w4.heap.size + 1) (w5.heap.size) [vr0i] d_r0 ∧ w6.heap.size ≤ w'.heap.size := ⟨_, rfl⟩
  have KS : Hid (∀ wa wb, S wa → Below wa.heap.size wa wb → S wb) := by subst HSd; exact fun wa wb h b => ⟨h.1.trans (b.mono h.1.size), h.2.1.below b, h.2.2.1.below b, h.2.2.2.1.below b, h.2.2.2.2.1.below b, h.2.2.2.2.2.1.below b, Nat.le_trans h.2.2.2.2.2.2 b.size⟩
  have OS : Hid (∀ wa, S wa → Below w.heap.size w wa ∧ BoxN wa (w.heap.size) [.slice avaS_Rounds nvaS_Rounds kvaS_Rounds, .slice avaS_Days nvaS_Days kvaS_Days, .int .i64 aS_Rest, .slice avaS_Closed nvaS_Closed kvaS_Closed] ∧ OwN tIntS wa (w1.heap.size) (w3.heap.size) [vr0s] d_r0 ∧ OwN tSeason wa (w3.heap.size) (w4.heap.size) [.slice avaS_Roundsx nvaS_Roundsx kvaS_Roundsx, .slice avaS_Daysx nvaS_Daysx kvaS_Daysx, .int .i64 aS_Rest, .slice avaS_Closedx nvaS_Closedx kvaS_Closedx] d_aS ∧ BoxN wa (w4.heap.size) [.slice avaS_Roundsx nvaS_Roundsx kvaS_Roundsx, .slice avaS_Daysx nvaS_Daysx kvaS_Daysx, .int .i64 aS_Rest, .slice avaS_Closedx nvaS_Closedx kvaS_Closedx] ∧ OwN tIntS wa (w4.heap.size + 1) (w5.heap.size) [vr0i] d_r0 ∧ w6.heap.size ≤ wa.heap.size) := by subst HSd; exact fun wa h => h
  have IS : Hid (∀ wa, Below w.heap.size w wa ∧ BoxN wa (w.heap.size) [.slice avaS_Rounds nvaS_Rounds kvaS_Rounds, .slice avaS_Days nvaS_Days kvaS_Days, .int .i64 aS_Rest, .slice avaS_Closed nvaS_Closed kvaS_Closed] ∧ OwN tIntS wa (w1.heap.size) (w3.heap.size) [vr0s] d_r0 ∧ OwN tSeason wa (w3.heap.size) (w4.heap.size) [.slice avaS_Roundsx nvaS_Roundsx kvaS_Roundsx, .slice avaS_Daysx nvaS_Daysx kvaS_Daysx, .int .i64 aS_Rest, .slice avaS_Closedx nvaS_Closedx kvaS_Closedx] d_aS ∧ BoxN wa (w4.heap.size) [.slice avaS_Roundsx nvaS_Roundsx kvaS_Roundsx, .slice avaS_Daysx nvaS_Daysx kvaS_Daysx, .int .i64 aS_Rest, .slice avaS_Closedx nvaS_Closedx kvaS_Closedx] ∧ OwN tIntS wa (w4.heap.size + 1) (w5.heap.size) [vr0i] d_r0 ∧ w6.heap.size ≤ wa.heap.size → S wa) := by subst HSd; exact fun wa h => h
  clear HSd
  go_wp2_with fail
  refine wp_region_held_drew (S := S) (by kernel_rfl) ?_ (fun hHeld => ?_)
  · exact IS.out _ ((fun (b : Below w6.heap.size w6 _) => ⟨HB.out.trans (b.mono HB.out.size), BX_aS.out.below b, OW_r0s.out.below b, OW_aSx.out.below b, BX_aSx.out.below b, OW_r0i.out.below b, Nat.le_trans LE.out b.size⟩) (Below.refl _ _).drew)
  refine wpAnyH_take (i := 0) (v := ?_) rfl (by kernel_rfl) (by kernel_rfl) (by kernel_rfl) (fun _ _ _ h => h) (Or.inl ⟨by rfl, ?_⟩) hHeld ?_
  rotate_left
  · (intro wa hSw; have K := OS.out _ hSw; have caSx_0 := (K.2.2.2.2.1).2 0 _ rfl; have caSx_1 := (K.2.2.2.2.1).2 1 _ rfl; have caSx_2 := (K.2.2.2.2.1).2 2 _ rfl; have caSx_3 := (K.2.2.2.2.1).2 3 _ rfl; have caS_0 := (K.2.1).2 0 _ rfl; have caS_1 := (K.2.1).2 1 _ rfl; have caS_2 := (K.2.1).2 2 _ rfl; have caS_3 := (K.2.1).2 3 _ rfl; go_simp; try with_reducible rfl)
  simp only [Act.put, List.getElem_toArray, List.getElem_cons_zero, List.setIfInBounds_toArray, List.set_cons_zero, List.set_cons_succ]
  refine wpAnyH_take (i := 1) (v := ?_) rfl (by kernel_rfl) (by kernel_rfl) (by kernel_rfl) (fun _ _ _ h => h) (Or.inl ⟨by rfl, ?_⟩) hHeld ?_
  rotate_left
  · (intro wa hSw; have K := OS.out _ hSw; have caSx_0 := (K.2.2.2.2.1).2 0 _ rfl; have caSx_1 := (K.2.2.2.2.1).2 1 _ rfl; have caSx_2 := (K.2.2.2.2.1).2 2 _ rfl; have caSx_3 := (K.2.2.2.2.1).2 3 _ rfl; have caS_0 := (K.2.1).2 0 _ rfl; have caS_1 := (K.2.1).2 1 _ rfl; have caS_2 := (K.2.1).2 2 _ rfl; have caS_3 := (K.2.1).2 3 _ rfl; go_simp; try with_reducible rfl)
  simp only [Act.put, List.getElem_toArray, List.getElem_cons_zero, List.getElem_cons_succ, List.setIfInBounds_toArray, List.set_cons_zero, List.set_cons_succ]
  refine wpAnyH_ready (rs := [2]) (by kernel_rfl) (by simp) ?_
  refine AllReadyH.cons (o := _) rfl (fun K hK => ?_) AllReadyH.nil
  go_simp
  have KK := OS.out _ hHeld
  refine (y_to_Season (.slice avaS_Rounds nvaS_Rounds kvaS_Rounds) (.slice avaS_Days nvaS_Days kvaS_Days) aS_Rest (.slice avaS_Closed nvaS_Closed kvaS_Closed) d_aS _ (RdA.below HA_aS.out (KK.1)) SM_aS.out).mono ?_
  rintro e w107 ⟨vaS_Roundst2, vaS_Dayst2, vaS_Closedt2, rfl, ho, b107⟩
  have HT_aSt2 := Lib.hid ho.rdA
  clear ho
  clear KK
  (try go_wp2_with fail)
  refine hK.out _ _ ?_ (fun hHeld107 => ?_)
  · exact KS.out _ _ hHeld b107
  clear hK K
  refine wpAnyH_ready (rs := [3]) (by kernel_rfl) (by simp) ?_
  refine AllReadyH.cons (o := _) rfl (fun K hK => ?_) AllReadyH.nil
  go_simp
  have KK := OS.out _ hHeld107
  refine (y_eq_Season (.slice avaS_Roundsx nvaS_Roundsx kvaS_Roundsx) (.slice avaS_Daysx nvaS_Daysx kvaS_Daysx) aS_Rest (.slice avaS_Closedx nvaS_Closedx kvaS_Closedx) (vaS_Roundst2) (vaS_Dayst2) (vaS_Closedt2) d_aS _ (KK.2.2.2.1).rdA HT_aSt2.out).mono ?_
  rintro e w108 ⟨rfl, b108⟩
  clear HT_aSt2
  clear KK
  (try go_wp2_with fail)
  refine hK.out _ _ ?_ (fun hHeld108 => ?_)
  · exact KS.out _ _ hHeld107 b108
  clear hK K
  clear hHeld107
  refine wpAnyH_take (i := 4) (v := ?_) rfl (by kernel_rfl) (by kernel_rfl) (by kernel_rfl) (fun _ _ _ h => h) (Or.inl ⟨by rfl, ?_⟩) hHeld108 ?_
  rotate_left
  · (intro wa hSw; go_simp; try with_reducible rfl)
  simp only [Act.put, List.getElem_toArray, List.getElem_cons_zero, List.getElem_cons_succ, List.setIfInBounds_toArray, List.set_cons_zero, List.set_cons_succ]
  refine wpAnyH_done (by kernel_rfl) ?_ _
  have KE := Lib.hid (OS.out _ hHeld108)
  clear KS OS IS hHeld hHeld108
  have Z108 := Lib.hid (KE.out.2.2.2.2.2.2)
  replace HB := Lib.hid (KE.out.1)
  replace BX_aS := Lib.hid (KE.out.2.1)
  replace OW_r0s := Lib.hid (KE.out.2.2.1)
  replace OW_aSx := Lib.hid (KE.out.2.2.2.1)
  replace BX_aSx := Lib.hid (KE.out.2.2.2.2.1)
  replace OW_r0i := Lib.hid (KE.out.2.2.2.2.2.1)
  clear KE LE
  obtain ⟨M_aSx, hM⟩ : ∃ z, cnt_Season d_aS = z := ⟨_, rfl⟩
  have HM_aSx := Lib.hid hM
  have hM2_aSx : M_aSx ≤ 100000000000 := (by have h7 : cnt_Season d_aS ≤ 2000000000 := (Nat.le_trans (cntle_Season d_aS) (Bnd.le ((bnd_two (bnd_sl (bnd_sl (bnd_two bnd_int bnd_int))) (bnd_two (bnd_sl bnd_int) (bnd_two bnd_int (bnd_sl (bnd_two bnd_int (bnd_two bnd_int bnd_int)))))) : Bnd tSeason 7) SM_aS.out (by decide))); rw [hM] at h7; omega)
  clear hM
  have caSx_0 := BX_aSx.out.2 0 _ rfl
  have caSx_1 := BX_aSx.out.2 1 _ rfl
  have caSx_2 := BX_aSx.out.2 2 _ rfl
  have caSx_3 := BX_aSx.out.2 3 _ rfl
  have caSx_lt := BX_aSx.out.1
  go_wp2_with fail
  refine (mark_windowC OW_aSx.out fun bs ho hnd => yb_mk_Season (.slice avaS_Roundsx nvaS_Roundsx kvaS_Roundsx) (.slice avaS_Daysx nvaS_Daysx kvaS_Daysx) aS_Rest (.slice avaS_Closedx nvaS_Closedx kvaS_Closedx) d_aS ((1 : Int)) _ bs _ ho hnd (by omega) (by have := HM_aSx.out; omega)).mono ?_
  rintro e w109 ⟨rfl, hr, b109⟩
  clear caSx_0 caSx_1 caSx_2 caSx_3 caSx_lt
  rw [HM_aSx.out]
  clear OW_aSx
  clear hr
  have Z109 : Hid (w108.heap.size ≤ w109.heap.size) := (by have := b109.size; show _ ≤ _; omega)
  replace HB := Lib.hid (HB.out.trans (b109.below (by have := Z1.out; have := Z2.out; have := Z3.out; have := Z4.out; have := Z5.out; have := Z6.out; have := Z108.out; omega) HB.out.size))
  replace BX_aS := Lib.hid (BX_aS.out.touch b109 (by have := Z1.out; have := Z2.out; have := Z3.out; have := Z4.out; have := Z5.out; have := Z6.out; have := Z108.out; omega))
  replace OW_r0s := Lib.hid (OW_r0s.out.touch b109 (by have := Z1.out; have := Z2.out; have := Z3.out; have := Z4.out; have := Z5.out; have := Z6.out; have := Z108.out; omega))
  replace BX_aSx := Lib.hid (BX_aSx.out.touch b109 (by have := Z1.out; have := Z2.out; have := Z3.out; have := Z4.out; have := Z5.out; have := Z6.out; have := Z108.out; omega))
  replace OW_r0i := Lib.hid (OW_r0i.out.touch b109 (by have := Z1.out; have := Z2.out; have := Z3.out; have := Z4.out; have := Z5.out; have := Z6.out; have := Z108.out; omega))
  have kd3918 : decide ((1 : Int) + (M_aSx : Int) < 0) = false := decide_eq_false (by omega)
  go_wp2_with fail
  refine (y_eq_IntS (vr0i) (vr0s) d_r0 _ OW_r0i.out.rdA OW_r0s.out.rdA).mono ?_
  rintro e w110 ⟨rfl, b110⟩
  have Z110 : Hid (w109.heap.size ≤ w110.heap.size) := (by have := b110.size; show _ ≤ _; omega)
  replace HB := Lib.hid (HB.out.trans (b110.mono HB.out.size))
  replace BX_aS := Lib.hid (BX_aS.out.below b110)
  replace OW_r0s := Lib.hid (OW_r0s.out.below b110)
  replace BX_aSx := Lib.hid (BX_aSx.out.below b110)
  replace OW_r0i := Lib.hid (OW_r0i.out.below b110)
  obtain ⟨M_r0i, hM⟩ : ∃ z, tIntS.mks d_r0 = z := ⟨_, rfl⟩
  have HM_r0i := Lib.hid hM
  have hM2_r0i : M_r0i ≤ 100000000000 := (by have h7 : tIntS.mks d_r0 ≤ 100000000000 := (HNB0.out SM_aS.out); rw [hM] at h7; omega)
  clear hM
  go_wp2_with fail
  refine (mark_windowC OW_r0i.out fun bs ho hnd => yb_mk_IntS (vr0i) d_r0 ((1 : Int)) _ bs _ ho hnd (by omega) (by have := HM_r0i.out; omega)).mono ?_
  rintro e w111 ⟨rfl, hr, b111⟩
  rw [HM_r0i.out]
  clear OW_r0i
  have Z111 : Hid (w110.heap.size ≤ w111.heap.size) := (by have := b111.size; show _ ≤ _; omega)
  replace HB := Lib.hid (HB.out.trans (b111.below (by have := Z1.out; have := Z2.out; have := Z3.out; have := Z4.out; have := Z5.out; have := Z6.out; have := Z108.out; have := Z109.out; have := Z110.out; omega) HB.out.size))
  replace BX_aS := Lib.hid (BX_aS.out.touch b111 (by have := Z1.out; have := Z2.out; have := Z3.out; have := Z4.out; have := Z5.out; have := Z6.out; have := Z108.out; have := Z109.out; have := Z110.out; omega))
  replace OW_r0s := Lib.hid (OW_r0s.out.touch b111 (by have := Z1.out; have := Z2.out; have := Z3.out; have := Z4.out; have := Z5.out; have := Z6.out; have := Z108.out; have := Z109.out; have := Z110.out; omega))
  replace BX_aSx := Lib.hid (BX_aSx.out.touch b111 (by have := Z1.out; have := Z2.out; have := Z3.out; have := Z4.out; have := Z5.out; have := Z6.out; have := Z108.out; have := Z109.out; have := Z110.out; omega))
  have RN_r0i := Lib.hid hr
  clear hr
  have qd3924 : decide ((1 : Int) + (M_r0i : Int) < 0) = false := decide_eq_false (by omega)
  go_wp2_with fail
  refine (y_hd_IntS (vr0i) d_r0 (1 : Int) _ (RN_r0i.out.all (by have := Z1.out; have := Z2.out; have := Z3.out; have := Z4.out; have := Z5.out; have := Z6.out; have := Z108.out; have := Z109.out; have := Z110.out; have := Z111.out; (try simp only [World.alloc, Array.size_push]); omega)) (by omega) (by have := HM_r0i.out; omega)).mono ?_
  rintro e w112 ⟨rfl, b112⟩
  rw [HM_r0i.out]
  have Z112 : Hid (w111.heap.size ≤ w112.heap.size) := (by have := b112.size; show _ ≤ _; omega)
  replace HB := Lib.hid (HB.out.trans (b112.mono HB.out.size))
  replace BX_aS := Lib.hid (BX_aS.out.below b112)
  replace OW_r0s := Lib.hid (OW_r0s.out.below b112)
  replace BX_aSx := Lib.hid (BX_aSx.out.below b112)
  replace RN_r0i := Lib.hid (RN_r0i.out.below b112)
  have caS_0 := BX_aS.out.2 0 _ rfl
  have caS_1 := BX_aS.out.2 1 _ rfl
  have caS_2 := BX_aS.out.2 2 _ rfl
  have caS_3 := BX_aS.out.2 3 _ rfl
  have caS_lt := BX_aS.out.1
  go_wp2_with fail
  refine (y_to_Season (.slice avaS_Rounds nvaS_Rounds kvaS_Rounds) (.slice avaS_Days nvaS_Days kvaS_Days) aS_Rest (.slice avaS_Closed nvaS_Closed kvaS_Closed) d_aS _ (RdA.below HA_aS.out HB.out) SM_aS.out).mono ?_
  rintro e w113 ⟨vaS_Roundst3, vaS_Dayst3, vaS_Closedt3, rfl, ho, b113⟩
  clear caS_0 caS_1 caS_2 caS_3 caS_lt
  have Z113 : Hid (w112.heap.size ≤ w113.heap.size) := (by have := b113.size; show _ ≤ _; omega)
  replace HB := Lib.hid (HB.out.trans (b113.mono HB.out.size))
  replace BX_aS := Lib.hid (BX_aS.out.below b113)
  replace OW_r0s := Lib.hid (OW_r0s.out.below b113)
  replace BX_aSx := Lib.hid (BX_aSx.out.below b113)
  replace RN_r0i := Lib.hid (RN_r0i.out.below b113)
  have OW_aSt3 := Lib.hid (ho.mono (lo' := w112.heap.size) (hi' := w113.heap.size) (by have := Z1.out; have := Z2.out; have := Z3.out; have := Z4.out; have := Z5.out; have := Z6.out; have := Z108.out; have := Z109.out; have := Z110.out; have := Z111.out; have := Z112.out; have := Z113.out; (try simp only [World.alloc, Array.size_push]); omega) (Nat.le_refl _) (Nat.le_refl _))
  clear ho
  go_wp2_with fail
  refine (CI.out (vaS_Roundst3) (vaS_Dayst3) (vaS_Closedt3) _ OW_aSt3.out.rdA SM_aS.out (VarAt.below HTAB.out HB.out (Nat.le_refl _))).mono ?_
  rintro e w114 ⟨vr0j, rfl, ho, b114⟩
  have Z114 : Hid (w113.heap.size ≤ w114.heap.size) := (by have := b114.size; show _ ≤ _; omega)
  replace HB := Lib.hid (HB.out.trans (b114.mono HB.out.size))
  replace BX_aS := Lib.hid (BX_aS.out.below b114)
  replace OW_r0s := Lib.hid (OW_r0s.out.below b114)
  replace BX_aSx := Lib.hid (BX_aSx.out.below b114)
  replace RN_r0i := Lib.hid (RN_r0i.out.below b114)
  replace OW_aSt3 := Lib.hid (OW_aSt3.out.below b114)
  clear OW_aSt3
  have OW_r0j := Lib.hid (ho.mono (lo' := w112.heap.size) (hi' := w114.heap.size) (by have := Z1.out; have := Z2.out; have := Z3.out; have := Z4.out; have := Z5.out; have := Z6.out; have := Z108.out; have := Z109.out; have := Z110.out; have := Z111.out; have := Z112.out; have := Z113.out; have := Z114.out; (try simp only [World.alloc, Array.size_push]); omega) (Nat.le_refl _) (Nat.le_refl _))
  clear ho
  go_wp2_with fail
  refine (y_eq_IntS (vr0j) (vr0s) d_r0 _ OW_r0j.out.rdA OW_r0s.out.rdA).mono ?_
  rintro e w115 ⟨rfl, b115⟩
  have Z115 : Hid (w114.heap.size ≤ w115.heap.size) := (by have := b115.size; show _ ≤ _; omega)
  replace HB := Lib.hid (HB.out.trans (b115.mono HB.out.size))
  replace BX_aS := Lib.hid (BX_aS.out.below b115)
  replace OW_r0s := Lib.hid (OW_r0s.out.below b115)
  replace BX_aSx := Lib.hid (BX_aSx.out.below b115)
  replace RN_r0i := Lib.hid (RN_r0i.out.below b115)
  replace OW_r0j := Lib.hid (OW_r0j.out.below b115)
  have qd3936 : decide ((1 : Int) + (M_r0i : Int) < 0) = false := decide_eq_false (by omega)
  go_wp2_with fail
  refine (y_hd_IntS (vr0i) d_r0 (1 : Int) _ (RN_r0i.out.all (by have := Z1.out; have := Z2.out; have := Z3.out; have := Z4.out; have := Z5.out; have := Z6.out; have := Z108.out; have := Z109.out; have := Z110.out; have := Z111.out; have := Z112.out; have := Z113.out; have := Z114.out; have := Z115.out; (try simp only [World.alloc, Array.size_push]); omega)) (by omega) (by have := HM_r0i.out; omega)).mono ?_
  rintro e w116 ⟨rfl, b116⟩
  rw [HM_r0i.out]
  have Z116 : Hid (w115.heap.size ≤ w116.heap.size) := (by have := b116.size; show _ ≤ _; omega)
  replace HB := Lib.hid (HB.out.trans (b116.mono HB.out.size))
  replace BX_aS := Lib.hid (BX_aS.out.below b116)
  replace OW_r0s := Lib.hid (OW_r0s.out.below b116)
  replace BX_aSx := Lib.hid (BX_aSx.out.below b116)
  replace RN_r0i := Lib.hid (RN_r0i.out.below b116)
  replace OW_r0j := Lib.hid (OW_r0j.out.below b116)
  go_wp2
  go_ret
  exact ⟨rfl, HB.out⟩
theorem laid_met (os : Os) : laidMet Tryd.prog Rows.fnExactFirstCalendarRow.laid ((laidWorld os).forCall (fun _ _ => 0) ⟨#[], #[.int .i64 0, .agg #[.slice none 0 0, .slice none 0 0, .int .i64 0, .slice none 0 0]], []⟩).memory :=
  laidMet_of_run' 8 (by kernel_rfl) (by kernel_rfl)
set_option maxRecDepth 100000 in
theorem lifted (os : Os) (started : os.Started) (H : Type) (enc : TypeId × Value → H) (FF : Stop.Interp) :
    ReturnsInHanded {} Tryd.checked os 4 .any ((OpenSpec.ofChange Rows.fnExactFirstCalendarSpec).preRow enc Tryd.prog Tryd.f4 Rows.fnExactFirstCalendarRow.domain false Rows.fnExactFirstCalendarRow.laid) (((OpenSpec.ofChange Rows.fnExactFirstCalendarSpec).at FF).post enc Tryd.prog Tryd.f4 false true false false) := by
  have hw : (DataW.whole enc Tryd.prog ((laidWorld os).forCall (fun _ _ => 0) ⟨#[], #[.int .i64 0, .agg #[.slice none 0 0, .slice none 0 0, .int .i64 0, .slice none 0 0]], []⟩).memory Tryd.f4.params.toList Rows.fnExactFirstCalendarSpec.vars false [.int .i64 0, .agg #[.slice none 0 0, .slice none 0 0, .int .i64 0, .slice none 0 0]] 8).isSome = true := by kernel_rfl
  obtain ⟨x, hx⟩ := Option.isSome_iff_exists.1 hw
  refine returnsInHanded_of_row (C := Tryd.checked) (s := OpenSpec.ofChange Rows.fnExactFirstCalendarSpec) own started (by kernel_rfl) Tryd.func4
    (witness_row_at (enc := enc) (C := Tryd.checked) false (laidWorld os) #[.int .i64 0, .agg #[.slice none 0 0, .slice none 0 0, .int .i64 0, .slice none 0 0]] rfl (by kernel_rfl) (by kernel_rfl) (by kernel_rfl)
      (OpenSpec.preRow_of_cond 8 hx (by kernel_rfl) (fun k hk => by cases hk) (by kernel_rfl) (laid_met os))) ?_
  intro W base args ds gs before hval0 hW _ _ _ hL _ _
  have hval : ∀ (j : Nat) t v, Tryd.f4.params[j]? = some t → args[j]? = some v → Value.okWide Tryd.prog W .any base t v := hval0
  have hW' := hW
  obtain ⟨p, q, hA0, hV, rfl, hfz, hnd⟩ := hW
  have hA : DataW.TrodAll enc Tryd.prog W 0 (fun _ => true) true Tryd.f4.params.toList args.toList ds p := hA0
  rw [Tryd.params4] at hA hval
  obtain ⟨v0, vs0, d0, ds0, p0, q0, hargs, rfl, rfl, h0, r0⟩ := trodAll_cons hA
  obtain ⟨v1, vs1, d1, ds1, p1, q1, rfl, rfl, rfl, h1, r1⟩ := trodAll_cons r0
  obtain ⟨rfl, rfl, rfl⟩ := trodAll_nil r1
  obtain rfl : args = #[v0, v1] := by cases args; simp_all
  obtain ⟨gv, tv, csv, fuelv, dv, pv, rfl, hgv, htv, hvar, hdv, rfl⟩ := trodVars_one hV
  obtain rfl := Option.some.inj (gErr.symm.trans hgv)
  obtain rfl := Option.some.inj (gErrType.symm.trans htv)
  obtain ⟨old, hcs0, ho, hx0⟩ := held_of_trod_list Tryd.underlying56 hdv
  simp only [Prod.mk.injEq] at hx0
  obtain ⟨rfl, rfl⟩ := hx0
  have hcs' : csv = #[old] := by
    cases csv
    simp_all
  subst hcs'
  obtain ⟨ea, hea⟩ := errAt hL
  obtain ⟨a0, rfl, rfl, rfl, w0⟩ := open_int Tryd.underlying3 (hval 0 3 v0 rfl rfl) h0
  have k1 := h1
  have lt1 : ∀ x ∈ p1, x.block < W.heap.size := by obtain ⟨m, hm⟩ := k1; exact DataW.trod_lt m _ _ _ hm
  obtain ⟨cs1, rfl, x1, y1, f1⟩ := open_arg opens_Season Tryd.underlying42 (hval 1 42 v1 rfl rfl) h1
  obtain ⟨vz1_Rounds, vz1_Days, z1_Rest, vz1_Closed, e1⟩ := form_Season y1
  obtain rfl : cs1 = #[vz1_Rounds, vz1_Days, .int .i64 z1_Rest, vz1_Closed] := Array.toList_inj.1 e1
  clear hA0 hval0
  simp only [List.append_nil] at hW'
  refine (walk a0 vz1_Rounds vz1_Days z1_Rest vz1_Closed x1 ea W (intFit_of w0) y1 f1 hea).mono fun e W' ⟨he, bel⟩ => ?_
  subst he
  exact ⟨_, rfl, _, _, _, [], _, _, hW', trodAll_mk1 (shut_bool Tryd.underlying4 _), (trodAll_cons_mk (shut_int Tryd.underlying3 w0) (trodAll_cons_mk (Below.trod laidOut (by kernel_rfl) (of_decide_eq_true (by kernel_rfl)) k1 bel lt1) trodAll_mk0)), trodVars_mk1 hgv htv (var_of_at gErr ((at_of_var gErr hvar).below bel (Nat.le_refl _))) (trod_held Tryd.underlying56 ho 0), bel.frame _, fun h => by cases h⟩

theorem said : Rows.FnExactFirstCalendarSaid :=
  OpenClaim.holds_of_cond 4 Tryd.f4 rfl rfl rfl rfl rfl rfl rfl ⟨rfl, rfl, rfl, rfl, rfl⟩ rfl rfl rfl rfl rfl (by kernel_rfl) Tryd.func4 (by kernel_rfl)
    (of_decide_eq_true (by kernel_rfl)) (by unfold Func.isWrapper; first | (rw [if_pos (by decide +kernel)]; kernel_rfl) | (rw [if_neg (by decide +kernel)]; exact ⟨rfl, rfl⟩))
    (fun os started H enc _ FF => by rw [OpenClaim.pre_eq_preRow]; exact lifted os started H enc FF)
theorem plain (f : FuncId) (fn : Func) (hf : Tryd.pinned.checked.prog.funcNamed Rows.fnExactFirstCalendarRow.func = some f) (hfn : Tryd.pinned.checked.prog.funcs[f]? = some fn) :
    true = Tryd.pinned.checked.prog.looks [] ∧ ∀ (j : Nat) t, fn.params[j]? = some t → Tryd.pinned.checked.prog.wantsStandIn t = false := by
  obtain rfl : f = 4 := Option.some.inj ((show Tryd.prog.funcNamed Rows.fnExactFirstCalendarRow.func = some 4 by kernel_rfl).symm.trans hf) |>.symm
  obtain rfl : fn = Tryd.f4 := (Option.some.inj (Tryd.func4.symm.trans hfn)).symm
  refine ⟨by kernel_rfl, fun j t ht => ?_⟩
  rw [Tryd.params4] at ht
  have hm := Array.mem_of_getElem? ht
  simp only [List.mem_toArray, List.mem_cons, List.not_mem_nil, or_false] at hm
  rcases hm with rfl | rfl
  · exact (show Tryd.prog.wantsStandIn 3 = false by kernel_rfl)
  · exact (show Tryd.prog.wantsStandIn 42 = false by kernel_rfl)
theorem card : Rows.FnExactFirstCalendarCardSaid :=
  Claim7.holds_tied_plain_at .later [] _ _ _ _ said (fun _ h => by cases h) (by kernel_rfl) (fun _ h => by cases h) fnExactFirstCalendar_row_tie rfl ⟨rfl, rfl⟩ (by kernel_rfl) rfl plain (by kernel_rfl)
end Go.Proofs.YtcbpgbiannpfpaaDoor.fnExactFirstCalendar
