/-
  The law FnExactParseInt holds for every argument, where the library's own tables and errors are as its text lays them (the card ties that to the text).
-/
import Derived.Test.YtgdahjcngkokfaaDoorCards
import Derived.Test.YtgdahjcngkokfaaDoorTie
import Derived.WalkKit
import Derived.ProofKit
import Derived.OpenShut
import Derived.ShutString
import Derived.ChangeOld
import Derived.Below
import Derived.Lib.Hide
import Derived.Deep.DeepHandedRow
import Derived.Deep.DeepWitnessRowRef
import Derived.Lib.LaidTab
import Derived.LaidSub
import Derived.WalkSmall
import Derived.Test.YtgdahjcngkokfaaDoorIntParseImpl
import Derived.Test.YtgdahjcngkokfaaDoorLaidKit
namespace Go.Proofs.YtgdahjcngkokfaaDoor.fnExactParseInt
open Go.ChangeShapes Go.WideShapes Go.ChangeAt Go.RowKit
open Go.ChangeMaps (open_string shut_string)
set_option linter.unusedVariables false

theorem own : ownKnob Tryd.prog.godebug = none := by kernel_rfl
theorem laidOut : laidOutB Tryd.prog = true := by kernel_rfl

def nmAt (i : Nat) : String := (Rows.fnExactParseIntRow.laid.map (·.1)).getD i (String.ofList [])
theorem gPow : Tryd.prog.globalNamed (nmAt 2) = some 2 := by kernel_rfl
theorem gPowType : (Tryd.prog.globals[2]?).map (·.type) = some 83 := by kernel_rfl
theorem cPow : Tryd.prog.cellsOf 83 = 20 := by kernel_rfl
theorem cU64 : Tryd.prog.cellsOf 64 = 1 := by kernel_rfl
theorem tabPow {W : World} (h : laidMetH Tryd.prog Rows.fnExactParseIntRow.laid W) : PowTab W :=
  at_of_var gPow (Lib.tabIs_of_head (rest := []) gPow gPowType Tryd.underlying83 Tryd.underlying64 cU64 cPow
    (laidMetH.filter (l := Rows.fnExactParseIntRow.laid) (fun x => x.1 == nmAt 2) h))
theorem gRan : Tryd.prog.globalNamed (nmAt 3) = some 1 := by kernel_rfl
theorem gSyn : Tryd.prog.globalNamed (nmAt 4) = some 0 := by kernel_rfl
theorem gSynType : (Tryd.prog.globals[0]?).map (·.type) = some 39 := by kernel_rfl
theorem gRanType : (Tryd.prog.globals[1]?).map (·.type) = some 39 := by kernel_rfl
theorem at_of {w : World} {nm : String} {g : Nat} (hg : Tryd.prog.globalNamed nm = some g) (h : ∃ tp p, w.var? Tryd.prog nm = some #[.iface tp p]) : ∃ tp p, VarAt w g #[.iface tp p] := by
  obtain ⟨tp, p, h⟩ := h
  exact ⟨tp, p, at_of_var hg h⟩
theorem numWorld {W : World} (h : laidMetH Tryd.prog Rows.fnExactParseIntRow.laid W) : NumWorld W :=
  ⟨tabPow h, at_of gSyn (iface_var (rest := []) gSyn gSynType Tryd.underlying39 (laidMetH.filter (l := Rows.fnExactParseIntRow.laid) (fun x => x.1 == nmAt 4) h)),
    at_of gRan (iface_var (rest := []) gRan gRanType Tryd.underlying39 (laidMetH.filter (l := Rows.fnExactParseIntRow.laid) (fun x => x.1 == nmAt 3) h))⟩
noncomputable def laidWorld (os : Os) : World :=
  let w0 := World.holding Tryd.prog os ⟨#[], #[], []⟩
  let h1 := putAt (putAt (putAt w0.heap 4 (valsOf Rows.laid_math_bits_deBruijn32tab)) 5 (valsOf Rows.laid_math_bits_deBruijn64tab)) 2 (valsOf Rows.laid_internal_strconv_uint64pow10)
  let h2 := putAt h1 0 #[.iface 78 (.pointer (some ⟨w0.heap.size, 0, none⟩))]
  let h3 := putAt h2 1 #[.iface 78 (.pointer (some ⟨w0.heap.size + 1, 0, none⟩))]
  { w0 with heap := (h3.push (.cells #[.string (textOf Rows.laid_strconv_ErrSyntax)] 80)).push (.cells #[.string (textOf Rows.laid_strconv_ErrRange)] 80) }

theorem walk (s : ByteArray) (w : World) (hs0 : s.size ≤ maxLen) (hw : NumWorld w) :
    Calls Tryd.prog 5 #[.string s] w fun e w' => e = .returned (.bool true) ∧ Below w.heap.size w w' := by
  unfold maxLen at hs0
  by_cases hl : 1048576 < s.size
  · have g0 : decide ((1048576 : Int) < (s.size : Int)) = true := decide_eq_true (by omega)
    clear hw
    go_enter Tryd.func5, Tryd.ntmps5
    go_wp2
    go_ret
    exact ⟨rfl, Below.refl _ _⟩
  have g0 : decide ((1048576 : Int) < (s.size : Int)) = false := decide_eq_false (by omega)
  have C1 := Lib.hid (parseInt_spec s w (by omega))
  have C2 : Hid (∀ w1, Below w.heap.size w w1 → Calls Tryd.prog 7 #[.string s] w1 (ParsePost s w1)) :=
    fun w1 hb => parseInt_impl s w1 (by omega) (hw.below hb (Nat.le_refl _))
  clear hw
  go_enter Tryd.func5, Tryd.ntmps5
  go_wp2_with fail
  refine C1.out.mono ?_
  rintro e w1 ⟨v1, o1, rfl, h1, b1⟩
  go_wp2_with fail
  refine (C2.out w1 b1).mono ?_
  rintro e w2 ⟨v2, o2, rfl, h2, b2⟩
  obtain ⟨rfl, rfl⟩ := parsed_unique h1 h2
  have hs1 := b1.size
  replace b2 := b1.trans (b2.mono hs1)
  clear h1 h2 b1
  go_wp2
  go_ret
  exact ⟨rfl, b2⟩

theorem laid_met (os : Os) : laidMet Tryd.prog Rows.fnExactParseIntRow.laid ((laidWorld os).forCall (fun _ _ => 0) ⟨#[], #[.string ByteArray.empty], []⟩).memory :=
  laidMet_of_run' 8 (by kernel_rfl) (by kernel_rfl)
set_option maxRecDepth 100000 in
theorem lifted (os : Os) (started : os.Started) (H : Type) (enc : TypeId × Value → H) (FF : Stop.Interp) :
    ReturnsInHanded {} Tryd.checked os 5 .any ((OpenSpec.ofChange Rows.fnExactParseIntSpec).preRow enc Tryd.prog Tryd.f5 Rows.fnExactParseIntRow.domain false Rows.fnExactParseIntRow.laid) (((OpenSpec.ofChange Rows.fnExactParseIntSpec).at FF).post enc Tryd.prog Tryd.f5 false true false false) := by
  have hw : (DataW.whole enc Tryd.prog ((laidWorld os).forCall (fun _ _ => 0) ⟨#[], #[.string ByteArray.empty], []⟩).memory Tryd.f5.params.toList Rows.fnExactParseIntSpec.vars false [.string ByteArray.empty] 8).map (fun x => (x.1, x.2.1)) = some ([.lit (.string [])], []) := by kernel_rfl
  obtain ⟨⟨x1, x2, x3⟩, hx, hx1⟩ := Option.map_eq_some_iff.1 hw
  simp only [Prod.mk.injEq] at hx1
  obtain ⟨rfl, rfl⟩ := hx1
  refine returnsInHanded_of_row (C := Tryd.checked) (s := OpenSpec.ofChange Rows.fnExactParseIntSpec) own started (by kernel_rfl) Tryd.func5
    (witness_row_atRef (enc := enc) (C := Tryd.checked) false (laidWorld os) #[.string ByteArray.empty] rfl (by kernel_rfl) (by kernel_rfl) (by kernel_rfl)
      (OpenSpec.preRow_of_cond 8 hx (by kernel_rfl) (fun k hk => by cases hk) (by kernel_rfl) (laid_met os))) ?_
  intro W base args ds gs before hval0 hW _ _ _ hL _ _
  have hval : ∀ (j : Nat) t v, Tryd.f5.params[j]? = some t → args[j]? = some v → Value.okWide Tryd.prog W .any base t v := hval0
  have hW' := hW
  obtain ⟨p, q, hA0, hV, rfl, hfz, hnd⟩ := hW
  have hA : DataW.TrodAll enc Tryd.prog W 0 (fun _ => true) true Tryd.f5.params.toList args.toList ds p := hA0
  rw [Tryd.params5] at hA hval
  obtain ⟨v0, vs0, d0, ds0, p0, q0, hargs, rfl, rfl, h0, r0⟩ := trodAll_cons hA
  obtain ⟨rfl, rfl, rfl⟩ := trodAll_nil r0
  obtain rfl : args = #[v0] := by cases args; simp_all
  obtain ⟨rfl, rfl⟩ := trodVars_none hV
  obtain ⟨a0, rfl, rfl, rfl, w0⟩ := open_string Tryd.underlying9 (hval 0 9 v0 rfl rfl) h0
  clear hA0 hval0
  simp only [List.append_nil] at hW'
  refine (walk a0 W w0 (numWorld hL)).mono fun e W' ⟨he, bel⟩ => ?_
  subst he
  exact ⟨_, rfl, _, _, _, [], _, [], hW', trodAll_mk1 (shut_bool Tryd.underlying4 _), (trodAll_cons_mk (shut_string Tryd.underlying9 w0) trodAll_mk0), rfl, bel.frame _, fun h => by cases h⟩

theorem said : Rows.FnExactParseIntSaid :=
  OpenClaim.holds_of_cond 5 Tryd.f5 rfl rfl rfl rfl rfl rfl rfl ⟨rfl, rfl, rfl, rfl, rfl⟩ rfl rfl rfl rfl rfl (by kernel_rfl) Tryd.func5 (by kernel_rfl)
    (of_decide_eq_true (by kernel_rfl)) (by unfold Func.isWrapper; first | (rw [if_pos (by decide +kernel)]; kernel_rfl) | (rw [if_neg (by decide +kernel)]; exact ⟨rfl, rfl⟩))
    (fun os started H enc _ FF => by rw [OpenClaim.pre_eq_preRow]; exact lifted os started H enc FF)
theorem plain (f : FuncId) (fn : Func) (hf : Tryd.pinned.checked.prog.funcNamed Rows.fnExactParseIntRow.func = some f) (hfn : Tryd.pinned.checked.prog.funcs[f]? = some fn) :
    true = Tryd.pinned.checked.prog.looks [] ∧ ∀ (j : Nat) t, fn.params[j]? = some t → Tryd.pinned.checked.prog.wantsStandIn t = false := by
  obtain rfl : f = 5 := Option.some.inj ((show Tryd.prog.funcNamed Rows.fnExactParseIntRow.func = some 5 by kernel_rfl).symm.trans hf) |>.symm
  obtain rfl : fn = Tryd.f5 := (Option.some.inj (Tryd.func5.symm.trans hfn)).symm
  refine ⟨by kernel_rfl, fun j t ht => ?_⟩
  rw [Tryd.params5] at ht
  have hm := Array.mem_of_getElem? ht
  obtain rfl : t = 9 := by simpa using hm
  exact (show Tryd.prog.wantsStandIn 9 = false by kernel_rfl)
theorem card : Rows.FnExactParseIntCardSaid :=
  Claim7.holds_tied_plain_at .later [] _ _ _ _ said (fun _ h => by cases h) (by kernel_rfl) (fun _ h => by cases h) fnExactParseInt_row_tie rfl ⟨rfl, rfl⟩ (by kernel_rfl) rfl plain (by kernel_rfl)
end Go.Proofs.YtgdahjcngkokfaaDoor.fnExactParseInt
