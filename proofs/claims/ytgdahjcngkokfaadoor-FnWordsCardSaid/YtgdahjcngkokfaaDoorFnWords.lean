/-
  The law FnWords holds for every argument, where the library's own tables and errors are as its text lays them (the card ties that to the text).
-/
import Derived.Test.YtgdahjcngkokfaaDoorCards
import Derived.Test.YtgdahjcngkokfaaDoorTie
import Derived.WalkKit
import Derived.ProofKit
import Derived.OpenShut
import Derived.ShutString
import Derived.ChangeOld
import Derived.Below
import Derived.Lib.Hide
import Derived.Deep.DeepHandedRow
import Derived.Deep.DeepWitnessRowRef
import Derived.Lib.LaidTab
import Derived.LaidSub
import Derived.WalkSmall
import Derived.Test.YtgdahjcngkokfaaDoorWordsLaw
import Derived.Test.YtgdahjcngkokfaaDoorLaidKit
namespace Go.Proofs.YtgdahjcngkokfaaDoor.fnWords
open Go.ChangeShapes Go.WideShapes Go.ChangeAt Go.RowKit
open Go.ChangeMaps (open_string shut_string)
set_option linter.unusedVariables false

theorem own : ownKnob Tryd.prog.godebug = none := by kernel_rfl
theorem laidOut : laidOutB Tryd.prog = true := by kernel_rfl

def nmAt (i : Nat) : String := (Rows.fnWordsRow.laid.map (·.1)).getD i (String.ofList [])
theorem gPow : Tryd.prog.globalNamed (nmAt 2) = some 2 := by kernel_rfl
theorem gPowType : (Tryd.prog.globals[2]?).map (·.type) = some 83 := by kernel_rfl
theorem cPow : Tryd.prog.cellsOf 83 = 20 := by kernel_rfl
theorem cU64 : Tryd.prog.cellsOf 64 = 1 := by kernel_rfl
theorem tabPow {W : World} (h : laidMetH Tryd.prog Rows.fnWordsRow.laid W) : PowTab W :=
  at_of_var gPow (Lib.tabIs_of_head (rest := []) gPow gPowType Tryd.underlying83 Tryd.underlying64 cU64 cPow
    (laidMetH.filter (l := Rows.fnWordsRow.laid) (fun x => x.1 == nmAt 2) h))
theorem gRan : Tryd.prog.globalNamed (nmAt 3) = some 1 := by kernel_rfl
theorem gSyn : Tryd.prog.globalNamed (nmAt 4) = some 0 := by kernel_rfl
theorem gSynType : (Tryd.prog.globals[0]?).map (·.type) = some 39 := by kernel_rfl
theorem gRanType : (Tryd.prog.globals[1]?).map (·.type) = some 39 := by kernel_rfl
theorem at_of {w : World} {nm : String} {g : Nat} (hg : Tryd.prog.globalNamed nm = some g) (h : ∃ tp p, w.var? Tryd.prog nm = some #[.iface tp p]) : ∃ tp p, VarAt w g #[.iface tp p] := by
  obtain ⟨tp, p, h⟩ := h
  exact ⟨tp, p, at_of_var hg h⟩
theorem numWorld {W : World} (h : laidMetH Tryd.prog Rows.fnWordsRow.laid W) : NumWorld W :=
  ⟨tabPow h, at_of gSyn (iface_var (rest := []) gSyn gSynType Tryd.underlying39 (laidMetH.filter (l := Rows.fnWordsRow.laid) (fun x => x.1 == nmAt 4) h)),
    at_of gRan (iface_var (rest := []) gRan gRanType Tryd.underlying39 (laidMetH.filter (l := Rows.fnWordsRow.laid) (fun x => x.1 == nmAt 3) h))⟩
noncomputable def laidWorld (os : Os) : World :=
  let w0 := World.holding Tryd.prog os ⟨#[], #[], []⟩
  let h1 := putAt (putAt (putAt w0.heap 4 (valsOf Rows.laid_math_bits_deBruijn32tab)) 5 (valsOf Rows.laid_math_bits_deBruijn64tab)) 2 (valsOf Rows.laid_internal_strconv_uint64pow10)
  let h2 := putAt h1 0 #[.iface 78 (.pointer (some ⟨w0.heap.size, 0, none⟩))]
  let h3 := putAt h2 1 #[.iface 78 (.pointer (some ⟨w0.heap.size + 1, 0, none⟩))]
  { w0 with heap := (h3.push (.cells #[.string (textOf Rows.laid_strconv_ErrSyntax)] 80)).push (.cells #[.string (textOf Rows.laid_strconv_ErrRange)] 80) }

theorem walk (a : Option Addr) (len cap : Nat) (zs : List Int) (w : World) (hr : IsRow .u8 w a len cap zs) (hw : NumWorld w) :
    Calls Tryd.prog 3 #[.slice a len cap] w fun e w' => e = .returned (.bool true) ∧ Below w.heap.size w w' := by
  obtain ⟨hrow, hsm, hfit⟩ := hr.bytes
  clear hr
  generalize getN zs = g at *
  by_cases hl : 1048576 < len
  · have g0 : decide ((1048576 : Int) < (len : Int)) = true := decide_eq_true (by omega)
    clear hw hrow hsm
    go_enter Tryd.func3, Tryd.ntmps3
    go_wp2
    go_ret
    exact ⟨rfl, Below.refl _ _⟩
  have g0 : decide ((1048576 : Int) < (len : Int)) = false := decide_eq_false (by omega)
  have hle : len ≤ 1048576 := by omega
  have CN := Lib.hid (makeNum_any a len cap 1 g w hrow hsm hle (by omega))
  have CT : Hid (∀ w1, Below w.heap.size w w1 → Calls Tryd.prog 9 #[.slice a len cap] w1 fun e w' => (∃ t : ByteArray, t.size ≤ 14 ∧ e = .returned (.string t)) ∧ Below w1.heap.size w1 w') :=
    fun w1 hb => makeText_any a len cap g w1 (hrow.below hb (Nat.le_refl _)) hsm hle
  have HW := Lib.hid hw
  clear hw hrow hsm
  go_enter Tryd.func3, Tryd.ntmps3
  go_wp2_with fail
  refine CN.out.mono ?_
  rintro e w1 ⟨⟨x, hx, rfl⟩, b1⟩
  have hi : isInt ((x : Int) - 30000) := by unfold isInt; omega
  have hs1 := b1.size
  go_wp2_with fail
  refine (formatInt_impl _ _ hi (VarAt.below HW.out.tab b1 (Nat.le_refl _))).mono ?_
  rintro e w2 ⟨rfl, b2⟩
  replace b2 := b1.trans (b2.mono hs1)
  have hs2 := b2.size
  obtain ⟨Z, hZ⟩ : ∃ Z : ByteArray, Z = ⟨(Lib.itoa ((x : Int) - 30000)).toArray⟩ := ⟨_, rfl⟩
  have hZs : Z.size ≤ 1048576 := by
    rw [hZ]
    show (Lib.itoa ((x : Int) - 30000)).toArray.size ≤ _
    rw [List.size_toArray]
    have h1 := Lib.decDigits_length ((x : Int) - 30000).natAbs
    have h2 := nDigits_le ((x : Int) - 30000).natAbs (by omega)
    have h3 := Lib.decDigits_length ((x : Int) - 30000).toNat
    have h4 := nDigits_le ((x : Int) - 30000).toNat (by omega)
    unfold Lib.itoa
    split
    · rw [List.length_cons]; omega
    · omega
  have hZl : Hid (Lib.itoa ((x : Int) - 30000) = Z.data.toList) := by show _ = _; rw [hZ]
  rw [← hZ]
  clear hZ
  go_wp2_with fail
  refine (parseInt_impl Z _ hZs (HW.out.below b2 (Nat.le_refl _))).mono ?_
  rintro e w3 ⟨v, o, rfl, hp, b3⟩
  obtain ⟨rfl, rfl⟩ := parsed_itoa hi hZl.out hp
  replace b3 := b2.trans (b3.mono hs2)
  have hs3 := b3.size
  clear hp hZl
  go_wp2_with fail
  refine (CT.out _ b3).mono ?_
  rintro e w4 ⟨⟨t, ht, rfl⟩, b4⟩
  replace b4 := b3.trans (b4.mono hs3)
  have hs4 := b4.size
  clear CT CN b1 b2 b3
  have hT := tot_splAll t 32
  have hJ := splAll_join t 32
  have hLn := splAll_len t ⟨#[32]⟩
  have C5 := splitAny_impl t ⟨#[32]⟩ w4 (by omega) (by decide)
  generalize splAll t ⟨#[32]⟩ = L at *
  have HJ := Lib.hid hJ
  have HT := Lib.hid hT
  have H5 := Lib.hid C5
  clear hJ hT C5
  go_wp2_with fail
  refine H5.out.mono ?_
  rintro e w5 ⟨v5, rfl, o5, b5⟩
  have R5 := Lib.hid (StrRow.of_list o5 (by omega))
  replace b5 := b4.trans (b5.mono hs4)
  have hs5 := b5.size
  clear o5 H5
  go_wp2_with fail
  refine (join_impl v5 L.length (getS L) ⟨#[32]⟩ w5 R5.out (by omega) (by have := HT.out; omega) (by decide)).mono ?_
  rintro e w6 ⟨rfl, b6⟩
  replace b6 := b5.trans (b6.mono hs5)
  have hs6 := b6.size
  rw [HJ.out]
  clear R5 HT HJ
  have C7 := isName_impl ⟨#[120, 49]⟩ w6 (by decide)
  rw [name_x1] at C7
  have H7 := Lib.hid C7
  clear C7
  go_wp2_with fail
  refine H7.out.mono ?_
  rintro e w7 ⟨rfl, b7⟩
  replace b7 := b6.trans (b7.mono hs6)
  have hs7 := b7.size
  clear H7
  have C8 := splitLines_impl ⟨#[97, 10, 98, 10]⟩ w7 (by decide)
  have hll := lines_ab
  generalize lns ⟨#[97, 10, 98, 10]⟩ = L8 at *
  have H8 := Lib.hid C8
  clear C8
  go_wp2_with fail
  refine H8.out.mono ?_
  rintro e w8 ⟨v8, rfl, o8, b8⟩
  rw [hll] at o8
  obtain ⟨g8, cap8, rfl⟩ : ∃ g8 cap8, v8 = .slice (some ⟨g8, 0, none⟩) 2 cap8 := by
    rcases o8.2 with ⟨_, h⟩ | ⟨g8, cap8, _, rfl, _⟩
    · omega
    · exact ⟨g8, cap8, rfl⟩
  replace b8 := b7.trans (b8.mono hs7)
  clear o8 hll H8
  go_wp2
  go_ret
  exact ⟨rfl, b8⟩

theorem laid_met (os : Os) : laidMet Tryd.prog Rows.fnWordsRow.laid ((laidWorld os).forCall (fun _ _ => 0) ⟨#[], #[.slice none 0 0], []⟩).memory :=
  laidMet_of_run' 8 (by kernel_rfl) (by kernel_rfl)
set_option maxRecDepth 100000 in
theorem lifted (os : Os) (started : os.Started) (H : Type) (enc : TypeId × Value → H) (FF : Stop.Interp) :
    ReturnsInHanded {} Tryd.checked os 3 .any ((OpenSpec.ofChange Rows.fnWordsSpec).preRow enc Tryd.prog Tryd.f3 Rows.fnWordsRow.domain false Rows.fnWordsRow.laid) (((OpenSpec.ofChange Rows.fnWordsSpec).at FF).post enc Tryd.prog Tryd.f3 false true false false) := by
  have hw : (DataW.whole enc Tryd.prog ((laidWorld os).forCall (fun _ _ => 0) ⟨#[], #[.slice none 0 0], []⟩).memory Tryd.f3.params.toList Rows.fnWordsSpec.vars false [.slice none 0 0] 8).map (fun x => (x.1, x.2.1)) = some ([.nil], []) := by kernel_rfl
  obtain ⟨⟨x1, x2, x3⟩, hx, hx1⟩ := Option.map_eq_some_iff.1 hw
  simp only [Prod.mk.injEq] at hx1
  obtain ⟨rfl, rfl⟩ := hx1
  refine returnsInHanded_of_row (C := Tryd.checked) (s := OpenSpec.ofChange Rows.fnWordsSpec) own started (by kernel_rfl) Tryd.func3
    (witness_row_atRef (enc := enc) (C := Tryd.checked) false (laidWorld os) #[.slice none 0 0] rfl (by kernel_rfl) (by kernel_rfl) (by kernel_rfl)
      (OpenSpec.preRow_of_cond 8 hx (by kernel_rfl) (fun k hk => by cases hk) (by kernel_rfl) (laid_met os))) ?_
  intro W base args ds gs before hval0 hW _ _ _ hL _ _
  have hval : ∀ (j : Nat) t v, Tryd.f3.params[j]? = some t → args[j]? = some v → Value.okWide Tryd.prog W .any base t v := hval0
  have hW' := hW
  obtain ⟨p, q, hA0, hV, rfl, hfz, hnd⟩ := hW
  have hA : DataW.TrodAll enc Tryd.prog W 0 (fun _ => true) true Tryd.f3.params.toList args.toList ds p := hA0
  rw [Tryd.params3] at hA hval
  obtain ⟨v0, vs0, d0, ds0, p0, q0, hargs, rfl, rfl, h0, r0⟩ := trodAll_cons hA
  obtain ⟨rfl, rfl, rfl⟩ := trodAll_nil r0
  obtain rfl : args = #[v0] := by cases args; simp_all
  obtain ⟨rfl, rfl⟩ := trodVars_none hV
  have k0 := h0
  have lt0 : ∀ x ∈ p0, x.block < W.heap.size := by obtain ⟨m, hm⟩ := k0; exact DataW.trod_lt m _ _ _ hm
  obtain ⟨a0, len0, cap0, rfl⟩ := okWide_slice Tryd.underlying22 (hval 0 22 v0 rfl rfl)
  obtain ⟨z0, w0⟩ : ∃ zs, IsRow .u8 W a0 len0 cap0 zs := by
    obtain ⟨fuel, hf⟩ := h0
    rcases open_ints Tryd.underlying22 Tryd.underlying5 (by kernel_rfl) hf with ⟨hcs, _⟩ | ⟨x, l, c, zs, hcs, _, hl, hm, hz, _, hcell, hwz⟩
    · simp [Value.cells] at hcs
      obtain ⟨rfl, rfl, rfl⟩ := hcs
      exact ⟨[], .inl ⟨rfl, rfl, rfl, rfl⟩⟩
    · simp [Value.cells] at hcs
      obtain ⟨rfl, rfl, rfl⟩ := hcs
      exact ⟨zs, .inr ⟨_, rfl, hl, hm, by simpa using hz, hcell, hwz⟩⟩
  clear hA0 hval0
  simp only [List.append_nil] at hW'
  refine (walk a0 len0 cap0 z0 W w0 (numWorld hL)).mono fun e W' ⟨he, bel⟩ => ?_
  subst he
  exact ⟨_, rfl, _, _, _, [], _, [], hW', trodAll_mk1 (shut_bool Tryd.underlying4 _), (trodAll_cons_mk (Below.trod laidOut (by kernel_rfl) (of_decide_eq_true (by kernel_rfl)) k0 bel lt0) trodAll_mk0), rfl, bel.frame _, fun h => by cases h⟩

theorem said : Rows.FnWordsSaid :=
  OpenClaim.holds_of_cond 3 Tryd.f3 rfl rfl rfl rfl rfl rfl rfl ⟨rfl, rfl, rfl, rfl, rfl⟩ rfl rfl rfl rfl rfl (by kernel_rfl) Tryd.func3 (by kernel_rfl)
    (of_decide_eq_true (by kernel_rfl)) (by unfold Func.isWrapper; first | (rw [if_pos (by decide +kernel)]; kernel_rfl) | (rw [if_neg (by decide +kernel)]; exact ⟨rfl, rfl⟩))
    (fun os started H enc _ FF => by rw [OpenClaim.pre_eq_preRow]; exact lifted os started H enc FF)
theorem plain (f : FuncId) (fn : Func) (hf : Tryd.pinned.checked.prog.funcNamed Rows.fnWordsRow.func = some f) (hfn : Tryd.pinned.checked.prog.funcs[f]? = some fn) :
    true = Tryd.pinned.checked.prog.looks [] ∧ ∀ (j : Nat) t, fn.params[j]? = some t → Tryd.pinned.checked.prog.wantsStandIn t = false := by
  obtain rfl : f = 3 := Option.some.inj ((show Tryd.prog.funcNamed Rows.fnWordsRow.func = some 3 by kernel_rfl).symm.trans hf) |>.symm
  obtain rfl : fn = Tryd.f3 := (Option.some.inj (Tryd.func3.symm.trans hfn)).symm
  refine ⟨by kernel_rfl, fun j t ht => ?_⟩
  rw [Tryd.params3] at ht
  have hm := Array.mem_of_getElem? ht
  obtain rfl : t = 22 := by simpa using hm
  exact (show Tryd.prog.wantsStandIn 22 = false by kernel_rfl)
theorem card : Rows.FnWordsCardSaid :=
  Claim7.holds_tied_plain_at .later [] _ _ _ _ said (fun _ h => by cases h) (by kernel_rfl) (fun _ h => by cases h) fnWords_row_tie rfl ⟨rfl, rfl⟩ (by kernel_rfl) rfl plain (by kernel_rfl)
end Go.Proofs.YtgdahjcngkokfaaDoor.fnWords
