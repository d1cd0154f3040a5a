/-
  The law FnCalendars holds for every argument, where the library's own tables and errors are as its text lays them (the card ties that to the text).
-/
import Derived.Test.YtcbpgbiannpfpaaDoorCards
import Derived.Test.YtcbpgbiannpfpaaDoorTie
import Derived.WalkKit
import Derived.ProofKit
import Derived.OpenShut
import Derived.ShutString
import Derived.ChangeOld
import Derived.Below
import Derived.Lib.Hide
import Derived.Deep.DeepHandedRow
import Derived.Deep.DeepWitnessRowRef
import Derived.Lib.LaidTab
import Derived.LaidSub
import Derived.WalkSmall
import Derived.Test.YtcbpgbiannpfpaaDoorQ1
import Derived.Test.YtcbpgbiannpfpaaDoorQ2
import Derived.Test.YtcbpgbiannpfpaaDoorQ3
import Derived.Test.YtcbpgbiannpfpaaDoorQ6
import Derived.Test.YtcbpgbiannpfpaaDoorQ11
import Derived.Test.YtcbpgbiannpfpaaDoorQ12
import Derived.Test.YtcbpgbiannpfpaaDoorQ13
import Derived.Test.YtcbpgbiannpfpaaDoorQ14
import Derived.Test.YtcbpgbiannpfpaaDoorQ15
namespace Go.Proofs.YtcbpgbiannpfpaaDoor.fnCalendars
open Go.ChangeShapes Go.WideShapes Go.ChangeAt Go.RowKit
open Go.ChangeMaps (open_string shut_string)
set_option linter.unusedVariables false

theorem own : ownKnob Tryd.prog.godebug = none := by kernel_rfl
theorem laidOut : laidOutB Tryd.prog = true := by kernel_rfl
def nmAt (i : Nat) : String := (Rows.fnCalendarsRow.laid.map (·.1)).getD i (String.ofList [])
theorem gErr : Tryd.prog.globalNamed (nmAt 0) = some 0 := by kernel_rfl
theorem gErrType : (Tryd.prog.globals[0]?).map (·.type) = some 56 := by kernel_rfl
theorem star : "*errors.errorString" = "*" ++ "errors.errorString" := by decide
theorem rowErr (u : TypeId) (h : Tryd.prog.typeName? 3 u = some "*errors.errorString") : u = 133 :=
  typeName_ptr_named (nm := "errors.errorString") (by rw [← star]; kernel_rfl) (by kernel_rfl) (by decide) u (by rw [← star]; exact h)
theorem cErr : Tryd.prog.cellsOf 159 = 1 := by kernel_rfl
theorem cStr : Tryd.prog.cellsOf 9 = 1 := by kernel_rfl
theorem errAt {W : World} (h : laidMetH Tryd.prog Rows.fnCalendarsRow.laid W) : ∃ a, ErrAt W a := by
  obtain ⟨a, s, hv, _⟩ := laid_sentinel (n := nmAt 0) (r := []) (laidMetH.filter (l := Rows.fnCalendarsRow.laid) (fun x => x.1 == nmAt 0) h) gErr gErrType Tryd.underlying56 rowErr Tryd.underlying133 Tryd.underlying159 rfl rfl Tryd.underlying9 cErr cStr
  exact ⟨a, at_of_var gErr hv⟩
noncomputable def laidWorld (os : Os) : World :=
  let w0 := World.holding Tryd.prog os ⟨#[], #[], []⟩
  let h2 := putAt w0.heap 0 #[.iface 133 (.pointer (some ⟨w0.heap.size, 0, none⟩))]
  { w0 with heap := h2.push (.cells #[.string (textOf Rows.laid_loop_example_g00834_impl_errNoDay)] 159) }

theorem walk (a : Option Addr) (len cap : Nat) (zs : List Int) (ea : Addr) (w : World) (hr : IsRow .u8 w a len cap zs) (he : ErrAt w ea) :
    Calls Tryd.prog 3 #[.slice a len cap] w fun e w' => e = .returned (.bool true) ∧ Below w.heap.size w w' :=
  calendars_walk a len cap zs ea (CalImpl.mk (fun n vr vd rest vc D L C R w hR h1 h2 h3 h4 h5 => firstCalendar_impl n vr vd rest vc D L C R ea w hR h1 h2 h3 h4 h5)
    (fun v D n R w hR h s => isSchedule_impl v D n R w hR h s)
    (fun n v C R w hR h => closedOk_impl n v C R w hR h)
    (fun n vr vd rest vc D L C R w hR h1 h2 h3 h4 h5 => blockedRounds_impl n vr vd rest vc D L C R ea w hR h1 h2 h3 h4 h5)
    (fun v L w h => lastDay_impl v L w h)
    (fun n vr vd rest vc D L C vt T R w hR h1 h2 h3 ht h4 => isCalendar_impl n vr vd rest vc D L C vt T R w hR h1 h2 h3 ht h4)
    (fun vr vd rest vc D L C vt T tm R w hR h1 h2 h3 ht h4 => restOf_impl vr vd rest vc D L C vt T tm R w hR h1 h2 h3 ht h4)) w hr he
theorem laid_met (os : Os) : laidMet Tryd.prog Rows.fnCalendarsRow.laid ((laidWorld os).forCall (fun _ _ => 0) ⟨#[], #[.slice none 0 0], []⟩).memory :=
  laidMet_of_run' 8 (by kernel_rfl) (by kernel_rfl)
set_option maxRecDepth 100000 in
theorem lifted (os : Os) (started : os.Started) (H : Type) (enc : TypeId × Value → H) (FF : Stop.Interp) :
    ReturnsInHanded {} Tryd.checked os 3 .any ((OpenSpec.ofChange Rows.fnCalendarsSpec).preRow enc Tryd.prog Tryd.f3 Rows.fnCalendarsRow.domain false Rows.fnCalendarsRow.laid) (((OpenSpec.ofChange Rows.fnCalendarsSpec).at FF).post enc Tryd.prog Tryd.f3 false true false false) := by
  have hw : (DataW.whole enc Tryd.prog ((laidWorld os).forCall (fun _ _ => 0) ⟨#[], #[.slice none 0 0], []⟩).memory Tryd.f3.params.toList Rows.fnCalendarsSpec.vars false [.slice none 0 0] 8).isSome = true := by kernel_rfl
  obtain ⟨x, hx⟩ := Option.isSome_iff_exists.1 hw
  refine returnsInHanded_of_row (C := Tryd.checked) (s := OpenSpec.ofChange Rows.fnCalendarsSpec) own started (by kernel_rfl) Tryd.func3
    (witness_row_at (enc := enc) (C := Tryd.checked) false (laidWorld os) #[.slice none 0 0] rfl (by kernel_rfl) (by kernel_rfl) (by kernel_rfl)
      (OpenSpec.preRow_of_cond 8 hx (by kernel_rfl) (fun k hk => by cases hk) (by kernel_rfl) (laid_met os))) ?_
  intro W base args ds gs before hval0 hW _ _ _ hL _ _
  have hval : ∀ (j : Nat) t v, Tryd.f3.params[j]? = some t → args[j]? = some v → Value.okWide Tryd.prog W .any base t v := hval0
  have hW' := hW
  obtain ⟨p, q, hA0, hV, rfl, hfz, hnd⟩ := hW
  have hA : DataW.TrodAll enc Tryd.prog W 0 (fun _ => true) true Tryd.f3.params.toList args.toList ds p := hA0
  rw [Tryd.params3] at hA hval
  obtain ⟨v0, vs0, d0, ds0, p0, q0, hargs, rfl, rfl, h0, r0⟩ := trodAll_cons hA
  obtain ⟨rfl, rfl, rfl⟩ := trodAll_nil r0
  obtain rfl : args = #[v0] := by cases args; simp_all
  obtain ⟨gv, tv, csv, fuelv, dv, pv, rfl, hgv, htv, hvar, hdv, rfl⟩ := trodVars_one hV
  obtain rfl := Option.some.inj (gErr.symm.trans hgv)
  obtain rfl := Option.some.inj (gErrType.symm.trans htv)
  obtain ⟨old, hcs0, ho, hx0⟩ := held_of_trod_list Tryd.underlying56 hdv
  simp only [Prod.mk.injEq] at hx0
  obtain ⟨rfl, rfl⟩ := hx0
  have hcs' : csv = #[old] := by
    cases csv
    simp_all
  subst hcs'
  obtain ⟨ea, hea⟩ := errAt hL
  have k0 := h0
  have lt0 : ∀ x ∈ p0, x.block < W.heap.size := by obtain ⟨m, hm⟩ := k0; exact DataW.trod_lt m _ _ _ hm
  obtain ⟨a0, len0, cap0, rfl⟩ := okWide_slice Tryd.underlying22 (hval 0 22 v0 rfl rfl)
  obtain ⟨z0, w0⟩ : ∃ zs, IsRow .u8 W a0 len0 cap0 zs := by
    obtain ⟨fuel, hf⟩ := h0
    rcases open_ints Tryd.underlying22 Tryd.underlying5 (by kernel_rfl) hf with ⟨hcs, _⟩ | ⟨x, l, c, zs, hcs, _, hl, hm, hz, _, hcell, hwz⟩
    · simp [Value.cells] at hcs
      obtain ⟨rfl, rfl, rfl⟩ := hcs
      exact ⟨[], .inl ⟨rfl, rfl, rfl, rfl⟩⟩
    · simp [Value.cells] at hcs
      obtain ⟨rfl, rfl, rfl⟩ := hcs
      exact ⟨zs, .inr ⟨_, rfl, hl, hm, by simpa using hz, hcell, hwz⟩⟩
  clear hA0 hval0
  simp only [List.append_nil] at hW'
  refine (walk a0 len0 cap0 z0 ea W w0 hea).mono fun e W' ⟨he, bel⟩ => ?_
  subst he
  exact ⟨_, rfl, _, _, _, [], _, _, hW', trodAll_mk1 (shut_bool Tryd.underlying4 _), (trodAll_cons_mk (Below.trod laidOut (by kernel_rfl) (of_decide_eq_true (by kernel_rfl)) k0 bel lt0) trodAll_mk0), trodVars_mk1 hgv htv (var_of_at gErr ((at_of_var gErr hvar).below bel (Nat.le_refl _))) (trod_held Tryd.underlying56 ho 0), bel.frame _, fun h => by cases h⟩

theorem said : Rows.FnCalendarsSaid :=
  OpenClaim.holds_of_cond 3 Tryd.f3 rfl rfl rfl rfl rfl rfl rfl ⟨rfl, rfl, rfl, rfl, rfl⟩ rfl rfl rfl rfl rfl (by kernel_rfl) Tryd.func3 (by kernel_rfl)
    (of_decide_eq_true (by kernel_rfl)) (by unfold Func.isWrapper; first | (rw [if_pos (by decide +kernel)]; kernel_rfl) | (rw [if_neg (by decide +kernel)]; exact ⟨rfl, rfl⟩))
    (fun os started H enc _ FF => by rw [OpenClaim.pre_eq_preRow]; exact lifted os started H enc FF)
theorem plain (f : FuncId) (fn : Func) (hf : Tryd.pinned.checked.prog.funcNamed Rows.fnCalendarsRow.func = some f) (hfn : Tryd.pinned.checked.prog.funcs[f]? = some fn) :
    true = Tryd.pinned.checked.prog.looks [] ∧ ∀ (j : Nat) t, fn.params[j]? = some t → Tryd.pinned.checked.prog.wantsStandIn t = false := by
  obtain rfl : f = 3 := Option.some.inj ((show Tryd.prog.funcNamed Rows.fnCalendarsRow.func = some 3 by kernel_rfl).symm.trans hf) |>.symm
  obtain rfl : fn = Tryd.f3 := (Option.some.inj (Tryd.func3.symm.trans hfn)).symm
  refine ⟨by kernel_rfl, fun j t ht => ?_⟩
  rw [Tryd.params3] at ht
  have hm := Array.mem_of_getElem? ht
  obtain rfl : t = 22 := by simpa using hm
  exact (show Tryd.prog.wantsStandIn 22 = false by kernel_rfl)
theorem card : Rows.FnCalendarsCardSaid :=
  Claim7.holds_tied_plain_at .later [] _ _ _ _ said (fun _ h => by cases h) (by kernel_rfl) (fun _ h => by cases h) fnCalendars_row_tie rfl ⟨rfl, rfl⟩ (by kernel_rfl) rfl plain (by kernel_rfl)
end Go.Proofs.YtcbpgbiannpfpaaDoor.fnCalendars
