/-
  Packed: ReasonsWalk.
-/
import Derived.Test.YteciobkjfmddcaaGreatDoorCards
import Derived.Test.YteciobkjfmddcaaGreatDoorTie
import Derived.WalkKit
import Derived.ProofKit
import Derived.OpenShut
import Derived.ShutString
import Derived.ChangeOld
import Derived.Below
import Derived.Lib.Hide
import Derived.Deep.DeepHandedRow
import Derived.Deep.DeepWitnessRowRef
import Derived.Lib.LaidTab
import Derived.LaidSub
import Derived.WalkSmall
import Derived.Test.YteciobkjfmddcaaGreatDoorQ1
import Derived.Test.YteciobkjfmddcaaGreatDoorQ6
import Derived.Test.YteciobkjfmddcaaGreatDoorQ13
import Derived.Test.YteciobkjfmddcaaGreatDoorQ14
import Derived.Test.YteciobkjfmddcaaGreatDoorQ16
import Derived.Test.YteciobkjfmddcaaGreatDoorQ18
namespace Go.Proofs.YteciobkjfmddcaaGreatDoor.fnReasons
open Go.ChangeShapes Go.WideShapes Go.ChangeAt Go.RowKit
open Go.ChangeMaps (open_string shut_string)
set_option linter.unusedVariables false

theorem own : ownKnob Tryz.prog.godebug = none := by kernel_rfl
theorem laidOut : laidOutB Tryz.prog = true := by kernel_rfl
def nmAt (i : Nat) : String := (Rows.fnReasonsRow.laid.map (·.1)).getD i (String.ofList [])
theorem gPow : Tryz.prog.globalNamed (nmAt 2) = some 0 := by kernel_rfl
theorem gPowType : (Tryz.prog.globals[0]?).map (·.type) = some 177 := by kernel_rfl
theorem cPow : Tryz.prog.cellsOf 177 = 20 := by kernel_rfl
theorem cU64 : Tryz.prog.cellsOf 154 = 1 := by kernel_rfl
theorem tabPow {W : World} (h : laidMetH Tryz.prog Rows.fnReasonsRow.laid W) : PowTab W :=
  at_of_var gPow (Lib.tabIs_of_head (rest := []) gPow gPowType Tryz.underlying177 Tryz.underlying154 cU64 cPow
    (laidMetH.filter (l := Rows.fnReasonsRow.laid) (fun x => x.1 == nmAt 2) h))
noncomputable def laidWorld (os : Os) : World :=
  let w0 := World.holding Tryz.prog os ⟨#[], #[], []⟩
  { w0 with heap := putAt (putAt (putAt w0.heap 2 (valsOf Rows.laid_math_bits_deBruijn32tab)) 3 (valsOf Rows.laid_math_bits_deBruijn64tab)) 0 (valsOf Rows.laid_internal_strconv_uint64pow10) }

set_option maxRecDepth 100000 in
set_option maxHeartbeats 16000000 in
theorem walk (a : Option Addr) (len cap : Nat) (zs : List Int) (w : World) (hr : IsRow .u8 w a len cap zs) (htab : PowTab w) :
    Calls Tryz.prog 3 #[.slice a len cap] w fun e w' => e = .returned (.bool true) ∧ Below w.heap.size w w' := by
  obtain ⟨i0, hi, hz0, hz1, hz2⟩ := info_parts Tryz.infoI
  obtain ⟨hrow, hsm, hfit⟩ := hr.bytes
  clear hr
  generalize getN zs = g at *
  by_cases hl : 1048576 < len
  · have g0 : decide ((1048576 : Int) < (len : Int)) = true := decide_eq_true (by omega)
    clear hrow hsm
    go_enter Tryz.func3, Tryz.ntmps3
    go_wp2
    go_ret
    exact ⟨rfl, Below.refl _ _⟩
  have g0 : decide ((1048576 : Int) < (len : Int)) = false := decide_eq_false (by omega)
  have hle : len ≤ 1048576 := by omega
  have CM := Lib.hid (madeBook a len cap g w hrow hsm hle)
  have HROW := Lib.hid hrow
  have HTB := Lib.hid htab
  clear hrow hsm htab
  go_enter Tryz.func3, Tryz.ntmps3
  go_wp2_with fail
  refine CM.out.mono ?_
  rintro e w1 ⟨b, fa, fc, la, lc, ga, gc, qa, qc, ta, tc, hmade, rfl, hrow1, b1⟩
  have HM := Lib.hid hmade
  have hn := hmade.nf
  have hsix := hrow1.sixty
  have K1 := Lib.hid (BkAt.made hrow1 29)
  have B1 := Lib.hid b1
  have HT1 : Hid (PowTab w1) := VarAt.below HTB.out b1 (Nat.le_refl _)
  clear hmade hrow1 b1 CM HTB HROW
  obtain ⟨O, hO⟩ : ∃ O, ordB b = O := ⟨_, rfl⟩
  have HOl : Hid (O.length = b.nf) := by rw [← hO]; exact ord_len b
  have HTO : Hid (∀ (i k : Nat) u v, i < k → O[i]? = some u → O[k]? = some v → ∃ r, ToldR b u v r) := fun i k u v h1 h2 h3 => HM.out.told h1 (by rw [hO]; exact h2) (by rw [hO]; exact h3)
  have CRk : Hid (∀ wa, BookRow wa (.slice fa b.nf fc) (.slice la b.nl lc) (.slice ga b.m gc) (.slice qa b.nfa qc) (.slice ta b.nta tc) b → Calls Tryz.prog 5 #[.agg #[.slice fa b.nf fc, .int .i64 b.win, .int .i64 b.draw, .int .i64 b.loss, .slice la b.nl lc, .bool b.again, .slice ga b.m gc, .slice qa b.nfa qc, .slice ta b.nta tc]] wa (IntsL wa O)) := fun wa h => by
    have h2 := ranking_impl _ _ _ _ _ b true wa ⟨fun _ => HM.out.book, fun _ => rfl⟩ h HM.out.names (by omega)
    rw [if_pos rfl, HM.out.ranking, hO] at h2
    exact h2
  have CRf : Hid (∀ (x y ky fi ot : Int) (G : List Int) (n : Nat) wa, pairP b x y → findP b x y (allL b.nf) 0 = some ⟨ky, G, fi, ot⟩ → G.length = n → BookRow wa (.slice fa b.nf fc) (.slice la b.nl lc) (.slice ga b.m gc) (.slice qa b.nfa qc) (.slice ta b.nta tc) b → Calls Tryz.prog 6 #[.agg #[.slice fa b.nf fc, .int .i64 b.win, .int .i64 b.draw, .int .i64 b.loss, .slice la b.nl lc, .bool b.again, .slice ga b.m gc, .slice qa b.nfa qc, .slice ta b.nta tc], .int .i64 x, .int .i64 y] wa fun e w' => ∃ ra rc, e = .returned (.tuple #[.agg #[.int .i64 ky, .slice ra n rc, .int .i64 fi, .int .i64 ot], .bool true]) ∧ w'.ownsRow wa.heap.size 3 1 (.slice ra n rc) G.length (G.map (Value.int .i64)) ∧ Below wa.heap.size wa w') := fun x y ky fi ot G n wa hp hf hG h => by
    have h2 := reasonFor_impl _ _ _ _ _ b x y true wa ⟨fun _ => hp, fun _ => rfl⟩ h HM.out.names (by omega)
    rw [if_pos rfl, hf] at h2
    refine h2.mono fun e w' ⟨v, he, ho, hb⟩ => ?_
    obtain ⟨ra, rc, hv⟩ := owns_form ho
    subst hv
    have ho' : w'.ownsRow wa.heap.size 3 1 (.slice ra G.length rc) G.length (G.map (Value.int .i64)) := ho
    refine ⟨ra, rc, ?_, by rw [hG] at ho' ⊢; exact ho', hb⟩
    rw [he, ← hG]; rfl
  have CSa : Hid (∀ (x y : Int) (r : RsnD) (q : Bool) wa, pairP b x y → findP b x y (allL b.nf) 0 = some r → decide (r.other < r.first) = q → BookRow wa (.slice fa b.nf fc) (.slice la b.nl lc) (.slice ga b.m gc) (.slice qa b.nfa qc) (.slice ta b.nta tc) b → Calls Tryz.prog 8 #[.agg #[.slice fa b.nf fc, .int .i64 b.win, .int .i64 b.draw, .int .i64 b.loss, .slice la b.nl lc, .bool b.again, .slice ga b.m gc, .slice qa b.nfa qc, .slice ta b.nta tc], .int .i64 x, .int .i64 y] wa fun e w' => e = .returned (.bool q) ∧ Below wa.heap.size wa w') := fun x y r q wa hp hf hq h => by
    have h2 := standsAbove_impl _ _ _ _ _ b x y true wa ⟨fun _ => hp, fun _ => rfl⟩ h HM.out.names (by omega)
    rw [if_pos rfl, hf] at h2
    rw [← hq]
    exact h2
  have CKv : Hid (∀ (ky x z : Int) gv n (gg : Nat → Int) wa, keyP b x → bookV b ky gg n x.toNat = z → BookRow wa (.slice fa b.nf fc) (.slice la b.nl lc) (.slice ga b.m gc) (.slice qa b.nfa qc) (.slice ta b.nta tc) b → IntRow wa gv n gg → Calls Tryz.prog 9 #[.agg #[.slice fa b.nf fc, .int .i64 b.win, .int .i64 b.draw, .int .i64 b.loss, .slice la b.nl lc, .bool b.again, .slice ga b.m gc, .slice qa b.nfa qc, .slice ta b.nta tc], .int .i64 ky, .int .i64 x, gv] wa fun e w' => e = .returned (.int .i64 z) ∧ Below wa.heap.size wa w') := fun ky x z gv n gg wa hp hz h hv => by
    have h3 := keyValue_impl _ _ _ _ _ b ky x gv n gg true wa ⟨fun _ => hp, fun _ => rfl⟩ h HM.out.names hv
    rw [if_pos rfl, hz] at h3
    exact h3
  have CRt : Hid (∀ (ky fi ot : Int) gv n (gg : Nat → Int) wa, textP b ky n gg → n ≤ 5 → isInt fi → isInt ot → BookRow wa (.slice fa b.nf fc) (.slice la b.nl lc) (.slice ga b.m gc) (.slice qa b.nfa qc) (.slice ta b.nta tc) b → IntRow wa gv n gg → Below w1.heap.size w1 wa → Calls Tryz.prog 10 #[.agg #[.slice fa b.nf fc, .int .i64 b.win, .int .i64 b.draw, .int .i64 b.loss, .slice la b.nl lc, .bool b.again, .slice ga b.m gc, .slice qa b.nfa qc, .slice ta b.nta tc], .agg #[.int .i64 ky, gv, .int .i64 fi, .int .i64 ot]] wa fun e w' => e = .returned (.string (rsnT b ky fi ot n gg)) ∧ Below wa.heap.size wa w') := fun ky fi ot gv n gg wa hp hn hi ho h hv hb => by
    have h3 := reasonText_impl _ _ _ _ _ b ky fi ot gv n gg true wa ⟨fun _ => hp, fun _ => rfl⟩ h HM.out.names hv (by omega) hi ho (VarAt.below HT1.out hb (Nat.le_refl _))
    rw [if_pos rfl] at h3
    exact h3
  have CSr : Hid (∀ (ky fi ot : Int) gv n (gg : Nat → Int) wa, IntRow wa gv n gg → Calls Tryz.prog 11 #[.agg #[.int .i64 ky, gv, .int .i64 fi, .int .i64 ot], .agg #[.int .i64 ky, gv, .int .i64 fi, .int .i64 ot]] wa fun e w' => e = .returned (.bool true) ∧ Below wa.heap.size wa w') := fun ky fi ot gv n gg wa hv => sameReason_impl ky fi ot ky fi ot gv gv n n gg gg true wa ⟨fun _ => ⟨rfl, rfl, rfl, rfl, fun _ _ => rfl⟩, fun _ => rfl⟩ hv hv
  have CHs : Hid (∀ gv n (gg : Nat → Int) y wa, hasP gg y n → IntRow wa gv n gg → Calls Tryz.prog 7 #[gv, .int .i64 y] wa fun e w' => e = .returned (.bool true) ∧ Below wa.heap.size wa w') := fun gv n gg y wa h1 h2 => has_any _ _ _ y true wa ⟨fun _ => h1, fun _ => rfl⟩ h2
  clear hO
  obtain ⟨d0, d1, d2, d3, d4, d5, d6, d7, d8⟩ := K1.out.cells
  go_wp2_with fail
  refine (CRk.out _ K1.out.row).mono ?_
  rintro e w2 ⟨ov, rfl, hoo, b2⟩
  obtain ⟨oa, oc, hof⟩ := owns_form hoo
  subst hof
  have hor := IntRow.of_list hoo (by have := HOl.out; omega)
  rw [HOl.out] at hor ⊢
  obtain ⟨ob, oo, hoa, _, _⟩ := int_at hor (show 0 < b.nf by omega)
  subst hoa
  have OR2 := Lib.hid hor
  have K2 := Lib.hid (K1.out.next b2)
  clear d0 d1 d2 d3 d4 d5 d6 d7 d8 hoo hor b2 K1 CRk
  obtain ⟨d0, d1, d2, d3, d4, d5, d6, d7, d8⟩ := K2.out.cells
  go_wp2
  clear d0 d1 d2 d3 d4 d5 d6 d7 d8
  go_loopw [5] (fun iv wr => ∃ i : Nat, i ≤ b.nf ∧ iv = .int .i64 i ∧ Hid (BkAt w1 wr w1.heap.size fa fc la lc ga gc qa qc ta tc b) ∧ Hid (IntRow wr (.slice (some ⟨ob, oo, none⟩) b.nf oc) b.nf (getI O))) (fun iv _ => b.nf - (RowKit.intOf iv).toNat)
  case atStart => exact ⟨0, Nat.zero_le _, rfl, K2, OR2⟩
  case round =>
    clear K2 OR2
    obtain ⟨i, hi, rfl, KI, OI⟩ := hrel
    by_cases hli : i < b.nf
    · have hii : (i : Int) < (b.nf : Int) := by omega
      have s1 : IntKind.i64.wrap ((i : Int) + 1) = (i : Int) + 1 := IntWalk.i64_in _ (by omega)
      go_wp2
      go_loopw [6] (fun kv wr => ∃ k : Nat, i + 1 ≤ k ∧ k ≤ b.nf ∧ kv = .int .i64 k ∧ Hid (BkAt w1 wr w1.heap.size fa fc la lc ga gc qa qc ta tc b) ∧ Hid (IntRow wr (.slice (some ⟨ob, oo, none⟩) b.nf oc) b.nf (getI O))) (fun kv _ => b.nf - (RowKit.intOf kv).toNat)
      case atStart => exact ⟨i + 1, Nat.le_refl _, by omega, by go_num, KI, OI⟩
      case round =>
        clear KI OI
        obtain ⟨k, hk1, hk, rfl, K, ORr⟩ := hrel
        by_cases hlk : k < b.nf
        · have hki : (k : Int) < (b.nf : Int) := by omega
          have hk0 : (0 : Int) ≤ (k : Int) := by omega
          have hi0 : (0 : Int) ≤ (i : Int) := by omega
          obtain ⟨u, hu⟩ : ∃ u, O[i]? = some u := ⟨_, at_getI (by have := HOl.out; omega)⟩
          obtain ⟨v, hv⟩ : ∃ v, O[k]? = some v := ⟨_, at_getI (by have := HOl.out; omega)⟩
          obtain ⟨⟨ky, G, fi, ot⟩, t1, t2, t3, t4, t5, t6, t7, t8, t9, t10, t11, t12, t13, t14⟩ := HTO.out i k u v (by omega) hu hv
          simp only at t1 t2 t3 t4 t5 t6 t7 t8 t9 t10 t11 t12 t13 t14
          obtain ⟨n, hGn⟩ : ∃ n, G.length = n := ⟨_, rfl⟩
          have T1 := Lib.hid t1
          have T2 := Lib.hid t2
          have T4 := Lib.hid t4
          rw [hGn] at t5 t6 t7 t8 t9 t10
          have T5 := Lib.hid t5
          have T6 := Lib.hid t6
          have T7 := Lib.hid t7
          have T8 := Lib.hid t8
          have T9 := Lib.hid t9
          have hn5 : n ≤ 5 := t10
          have T11 := Lib.hid t11
          have T12 := Lib.hid t12
          have T13 := Lib.hid t13
          have T14 := Lib.hid t14
          have HGN := Lib.hid hGn
          have HLT : Hid (ot < fi) := t3
          have HKU : Hid (keyP b u) := ⟨t13.1, by have := t13.2.1; omega, by have := t13.2.1; omega⟩
          have HKW : Hid (keyP b v) := ⟨t13.1, by have := t13.2.2.1; omega, by have := t13.2.2.1; omega⟩
          clear t1 t2 t4 t5 t6 t7 t8 t9 t10 t11 t12 t13 t14 hGn
          obtain ⟨_, _, he1, hcap, qi⟩ := int_at ORr.out hli
          simp only [Option.some.injEq, Addr.mk.injEq, and_true] at he1
          obtain ⟨rfl, rfl⟩ := he1
          obtain ⟨_, _, he2, _, qk⟩ := int_at ORr.out hlk
          simp only [Option.some.injEq, Addr.mk.injEq, and_true] at he2
          obtain ⟨rfl, rfl⟩ := he2
          rw [getI_at hu] at qi
          rw [getI_at hv] at qk
          have HQI := Lib.hid (And.intro qi (World.block_lt_of_cell? wr _ qi))
          have HQK := Lib.hid (And.intro qk (World.block_lt_of_cell? wr _ qk))
          have HKB := K
          clear hu hv qi qk t3
          go_upto_region 13 with fail
          go_cut [7, 8] (fun s7 s8 wx => ∃ (C : Nat) (ra : Option Addr) (rc : Nat), s7 = .pointer (some ⟨C, 0, none⟩) ∧ s8 = .bool true ∧ Hid (Below wr.heap.size wr wx) ∧ Hid (BoxN wx C [.int .i64 ky, .slice ra n rc, .int .i64 fi, .int .i64 ot]) ∧ Hid (IntRow wx (.slice ra n rc) n (getI G)))
          case first =>
           as_aux_lemma =>
            obtain ⟨S, HSd⟩ : ∃ S : World → Prop, S = fun U => Below wr.heap.size wr U := ⟨_, rfl⟩
            have OS : Hid (∀ wa, S wa → Below wr.heap.size wr wa) := by subst HSd; exact fun _ h => h
            have IS : Hid (∀ wa, Below wr.heap.size wr wa → S wa) := by subst HSd; exact fun _ h => h
            clear HSd
            have KS0 := Lib.hid (IS.out _ (Below.refl _ _).drew)
            go_wp2_with fail
            refine wp_region_held_drew (S := S) (by kernel_rfl) ?_ (fun hH0 => ?_)
            · exact KS0.out
            clear KS0
            obtain ⟨wd, hwd⟩ : ∃ wd, wr.drew = wd := ⟨_, rfl⟩
            rw [hwd] at hH0
            rw [hwd]
            clear hwd
            refine wpAnyH_take (i := 0) (v := ?_) rfl (by kernel_rfl) (by kernel_rfl) (by kernel_rfl) (fun _ _ _ h => h) (Or.inl ⟨by rfl, ?_⟩) hH0 ?_
            rotate_left
            · (intro wa hSw; have K := OS.out _ hSw; have d0 := (HKB.out.next K).cells.1; obtain ⟨d0, d1, d2, d3, d4, d5, d6, d7, d8⟩ := (HKB.out.next K).cells; go_simp; try with_reducible rfl)
            simp only [Act.put, List.getElem_toArray, List.getElem_cons_zero, List.setIfInBounds_toArray, List.set_cons_zero, List.set_cons_succ]
            refine wpAnyH_take (i := 1) (v := ?_) rfl (by kernel_rfl) (by kernel_rfl) (by kernel_rfl) (fun _ _ _ h => h) (Or.inl ⟨by rfl, ?_⟩) hH0 ?_
            rotate_left
            · (intro wa hSw; go_simp; try with_reducible rfl)
            simp only [Act.put, List.getElem_toArray, List.getElem_cons_zero, List.getElem_cons_succ, List.setIfInBounds_toArray, List.set_cons_zero, List.set_cons_succ]
            refine wpAnyH_take (i := 2) (v := ?_) rfl (by kernel_rfl) (by kernel_rfl) (by kernel_rfl) (fun _ _ _ h => h) (Or.inl ⟨by rfl, ?_⟩) hH0 ?_
            rotate_left
            · (intro wa hSw; go_simp; try with_reducible rfl)
            simp only [Act.put, List.getElem_toArray, List.getElem_cons_zero, List.getElem_cons_succ, List.setIfInBounds_toArray, List.set_cons_zero, List.set_cons_succ]
            refine wpAnyH_take (i := 3) (v := ?_) rfl (by kernel_rfl) (by kernel_rfl) (by kernel_rfl) (fun _ _ _ h => h) (Or.inl ⟨by rfl, ?_⟩) hH0 ?_
            rotate_left
            · (intro wa hSw; go_simp; try with_reducible rfl)
            simp only [Act.put, List.getElem_toArray, List.getElem_cons_zero, List.getElem_cons_succ, List.setIfInBounds_toArray, List.set_cons_zero, List.set_cons_succ]
            refine wpAnyH_take (i := 4) (v := ?_) rfl (by kernel_rfl) (by kernel_rfl) (by kernel_rfl) (fun _ _ _ h => h) (Or.inl ⟨by rfl, ?_⟩) hH0 ?_
            rotate_left
            · (intro wa hSw; have K := OS.out _ hSw; have q0 := ((K).cell (p := ⟨ob, oo + i, none⟩) HQI.out.2).trans HQI.out.1; go_simp; try with_reducible rfl)
            simp only [Act.put, List.getElem_toArray, List.getElem_cons_zero, List.getElem_cons_succ, List.setIfInBounds_toArray, List.set_cons_zero, List.set_cons_succ]
            refine wpAnyH_take (i := 5) (v := ?_) rfl (by kernel_rfl) (by kernel_rfl) (by kernel_rfl) (fun _ _ _ h => h) (Or.inl ⟨by rfl, ?_⟩) hH0 ?_
            rotate_left
            · (intro wa hSw; go_simp; try with_reducible rfl)
            simp only [Act.put, List.getElem_toArray, List.getElem_cons_zero, List.getElem_cons_succ, List.setIfInBounds_toArray, List.set_cons_zero, List.set_cons_succ]
            refine wpAnyH_take (i := 6) (v := ?_) rfl (by kernel_rfl) (by kernel_rfl) (by kernel_rfl) (fun _ _ _ h => h) (Or.inl ⟨by rfl, ?_⟩) hH0 ?_
            rotate_left
            · (intro wa hSw; go_simp; try with_reducible rfl)
            simp only [Act.put, List.getElem_toArray, List.getElem_cons_zero, List.getElem_cons_succ, List.setIfInBounds_toArray, List.set_cons_zero, List.set_cons_succ]
            refine wpAnyH_take (i := 7) (v := ?_) rfl (by kernel_rfl) (by kernel_rfl) (by kernel_rfl) (fun _ _ _ h => h) (Or.inl ⟨by rfl, ?_⟩) hH0 ?_
            rotate_left
            · (intro wa hSw; go_simp; try with_reducible rfl)
            simp only [Act.put, List.getElem_toArray, List.getElem_cons_zero, List.getElem_cons_succ, List.setIfInBounds_toArray, List.set_cons_zero, List.set_cons_succ]
            refine wpAnyH_take (i := 8) (v := ?_) rfl (by kernel_rfl) (by kernel_rfl) (by kernel_rfl) (fun _ _ _ h => h) (Or.inl ⟨by rfl, ?_⟩) hH0 ?_
            rotate_left
            · (intro wa hSw; have K := OS.out _ hSw; have q0 := ((K).cell (p := ⟨ob, oo + k, none⟩) HQK.out.2).trans HQK.out.1; go_simp; try with_reducible rfl)
            simp only [Act.put, List.getElem_toArray, List.getElem_cons_zero, List.getElem_cons_succ, List.setIfInBounds_toArray, List.set_cons_zero, List.set_cons_succ]
            refine wpAnyH_ready (rs := [9, 13]) (by kernel_rfl) (by simp) ?_
            refine AllReadyH.cons (o := _) rfl (fun KC hKC => ?_) (AllReadyH.cons (o := _) rfl (fun KA hKA => ?_) AllReadyH.nil)
            · go_simp
              have KK := OS.out _ hH0
              refine (CRf.out u v ky fi ot G n _ T13.out T1.out HGN.out (HKB.out.next KK).row).mono ?_
              rintro e wy ⟨ra, rc, rfl, hro, by4⟩
              clear KK
              have hS1 := IS.out _ ((OS.out _ hH0).trans (by4.mono (OS.out _ hH0).size))
              (try go_wp2_with fail)
              refine hKC.out _ _ ?_ (fun hH => ?_)
              · exact hS1
              clear hKC KC hH
              refine wpAnyH_take (i := 10) (v := ?_) rfl (by kernel_rfl) (by kernel_rfl) (by kernel_rfl) (fun _ _ _ h => h) (Or.inl ⟨by rfl, ?_⟩) hS1 ?_
              rotate_left
              · (intro wa hSw; go_simp; try with_reducible rfl)
              simp only [Act.put, List.getElem_toArray, List.getElem_cons_zero, List.getElem_cons_succ, List.setIfInBounds_toArray, List.set_cons_zero, List.set_cons_succ]
              refine wpAnyH_take (i := 11) (v := ?_) rfl (by kernel_rfl) (by kernel_rfl) (by kernel_rfl) (fun _ _ _ h => h) (Or.inl ⟨by rfl, ?_⟩) hS1 ?_
              rotate_left
              · (intro wa hSw; go_simp; try with_reducible rfl)
              simp only [Act.put, List.getElem_toArray, List.getElem_cons_zero, List.getElem_cons_succ, List.setIfInBounds_toArray, List.set_cons_zero, List.set_cons_succ]
              refine wpAnyH_take (i := 12) (v := ?_) rfl (by kernel_rfl) (by kernel_rfl) (by kernel_rfl) (fun _ _ _ h => h) (Or.inl ⟨by rfl, ?_⟩) hS1 ?_
              rotate_left
              · (intro wa hSw; go_simp; try with_reducible rfl)
              simp only [Act.put, List.getElem_toArray, List.getElem_cons_zero, List.getElem_cons_succ, List.setIfInBounds_toArray, List.set_cons_zero, List.set_cons_succ]
              refine wpAnyH_ready (rs := [13]) (by kernel_rfl) (by simp) ?_
              refine AllReadyH.cons (o := _) rfl (fun KA hKA => ?_) AllReadyH.nil
              have hA : Below wy.heap.size wy (wy.alloc (.cells #[.int .i64 0, .slice none 0 0, .int .i64 0, .int .i64 0] 33)) := (Below.refl _ _).alloc (Nat.le_refl _) _
              have hR : ResAt (wy.alloc (.cells #[.int .i64 0, .slice none 0 0, .int .i64 0, .int .i64 0] 33)) wy.heap.size 4 := ResAt.made' rfl rfl
              have HYW : Hid (wr.heap.size ≤ wy.heap.size) := (OS.out _ hS1).size
              have hS3 := IS.out _ ((OS.out _ hS1).trans (hA.mono (OS.out _ hS1).size))
              have HAB := Lib.hid hA
              have HRO := Lib.hid hro
              clear hA hro
              have HLE := Lib.hid (Nat.le_refl wy.heap.size)
              go_simp
              refine hKA.out _ _ ?_ (fun hH => ?_)
              · exact hS3
              clear hKA KA hH
              obtain ⟨wq, hwq⟩ : ∃ wq, wy.alloc (.cells #[.int .i64 0, .slice none 0 0, .int .i64 0, .int .i64 0] 33) = wq := ⟨_, rfl⟩
              rw [hwq] at hS3 hR HAB
              rw [hwq]
              clear hwq
              obtain ⟨Y, hY⟩ : ∃ Y, wy.heap.size = Y := ⟨_, rfl⟩
              rw [hY] at hR HYW HAB HLE
              rw [hY]
              have HYE := Lib.hid hY
              clear hY
              have hS9 := IS.out _ (Below.putCs (C := wr.heap.size) (B := Y) HYW.out [.int .i64 ky, .slice ra n rc, .int .i64 fi, .int .i64 ot] 0 _ _ (OS.out _ hS3))
              obtain ⟨⟨x0, q0⟩, z0⟩ := hR.at 0 (by omega)
              obtain ⟨⟨x1, q1⟩, z1⟩ := hR.at 1 (by omega)
              obtain ⟨⟨x2, q2⟩, z2⟩ := hR.at 2 (by omega)
              obtain ⟨⟨x3, q3⟩, z3⟩ := hR.at 3 (by omega)
              have hRlt := hR.lt
              have HBX := Lib.hid (hR.put (vs := [.int .i64 ky, .slice ra n rc, .int .i64 fi, .int .i64 ot]) rfl).box
              have HG := Lib.hid (IntRow.of_list (owns_below HRO.out (Below.putCs (C := Y) (B := Y) (Nat.le_refl _) [.int .i64 ky, .slice ra n rc, .int .i64 fi, .int .i64 ot] 0 _ _ HAB.out) (Nat.le_of_eq HYE.out)) (by have := HGN.out; omega))
              refine wpAnyH_ready (rs := [14]) (by kernel_rfl) (by simp) ?_
              refine AllReadyH.cons (o := _) rfl (fun KT hKT => ?_) AllReadyH.nil
              go_simp
              refine hKT.out _ _ ?_ (fun hHs => ?_)
              · exact hS9
              clear hKT KT
              refine wpAnyH_take (i := 15) (v := ?_) rfl (by kernel_rfl) (by kernel_rfl) (by kernel_rfl) (fun _ _ _ h => h) (Or.inl ⟨by rfl, ?_⟩) hHs ?_
              rotate_left
              · (intro wa hSw; go_simp; try with_reducible rfl)
              simp only [Act.put, List.getElem_toArray, List.getElem_cons_zero, List.getElem_cons_succ, List.setIfInBounds_toArray, List.set_cons_zero, List.set_cons_succ]
              refine wpAnyH_done (by kernel_rfl) ?_ _
              have HE := Lib.hid (OS.out _ hHs)
              clear OS IS hHs hS9 hH0 hS1 hS3 q0 z0 q1 z1 q2 z2 q3 z3 hRlt hR
              go_wp2_with fail
              go_meet
              case rel => exact ⟨Y, ra, rc, rfl, rfl, HE, HBX, by rw [HGN.out] at HG; exact HG⟩
            · have hA : Below wd.heap.size wd (wd.alloc (.cells #[.int .i64 0, .slice none 0 0, .int .i64 0, .int .i64 0] 33)) := (Below.refl _ _).alloc (Nat.le_refl _) _
              have hR : ResAt (wd.alloc (.cells #[.int .i64 0, .slice none 0 0, .int .i64 0, .int .i64 0] 33)) wd.heap.size 4 := ResAt.made' rfl rfl
              have HYW : Hid (wr.heap.size ≤ wd.heap.size) := (OS.out _ hH0).size
              have hS3 := IS.out _ ((OS.out _ hH0).trans (hA.mono (OS.out _ hH0).size))
              have HLT : Hid (wd.heap.size + 1 ≤ (wd.alloc (.cells #[.int .i64 0, .slice none 0 0, .int .i64 0, .int .i64 0] 33)).heap.size) := by show _ ≤ _; simp
              clear hA
              go_simp
              refine hKA.out _ _ ?_ (fun hH => ?_)
              · exact hS3
              clear hKA KA hH
              obtain ⟨wq, hwq⟩ : ∃ wq, wd.alloc (.cells #[.int .i64 0, .slice none 0 0, .int .i64 0, .int .i64 0] 33) = wq := ⟨_, rfl⟩
              rw [hwq] at hS3 hR HLT
              rw [hwq]
              clear hwq
              obtain ⟨Y, hY⟩ : ∃ Y, wd.heap.size = Y := ⟨_, rfl⟩
              rw [hY] at hR HYW HLT
              rw [hY]
              clear hY
              refine wpAnyH_ready (rs := [9]) (by kernel_rfl) (by simp) ?_
              refine AllReadyH.cons (o := _) rfl (fun KC hKC => ?_) AllReadyH.nil
              go_simp
              have KK := OS.out _ hS3
              refine (CRf.out u v ky fi ot G n _ T13.out T1.out HGN.out (HKB.out.next KK).row).mono ?_
              rintro e wy ⟨ra, rc, rfl, hro, by4⟩
              clear KK
              have hS4 := IS.out _ ((OS.out _ hS3).trans (by4.mono (OS.out _ hS3).size))
              replace hR := hR.below by4
              have HRO := Lib.hid hro
              clear hro by4
              (try go_wp2_with fail)
              refine hKC.out _ _ ?_ (fun hH => ?_)
              · exact hS4
              clear hKC KC hH
              refine wpAnyH_take (i := 10) (v := ?_) rfl (by kernel_rfl) (by kernel_rfl) (by kernel_rfl) (fun _ _ _ h => h) (Or.inl ⟨by rfl, ?_⟩) hS4 ?_
              rotate_left
              · (intro wa hSw; go_simp; try with_reducible rfl)
              simp only [Act.put, List.getElem_toArray, List.getElem_cons_zero, List.getElem_cons_succ, List.setIfInBounds_toArray, List.set_cons_zero, List.set_cons_succ]
              refine wpAnyH_take (i := 11) (v := ?_) rfl (by kernel_rfl) (by kernel_rfl) (by kernel_rfl) (fun _ _ _ h => h) (Or.inl ⟨by rfl, ?_⟩) hS4 ?_
              rotate_left
              · (intro wa hSw; go_simp; try with_reducible rfl)
              simp only [Act.put, List.getElem_toArray, List.getElem_cons_zero, List.getElem_cons_succ, List.setIfInBounds_toArray, List.set_cons_zero, List.set_cons_succ]
              refine wpAnyH_take (i := 12) (v := ?_) rfl (by kernel_rfl) (by kernel_rfl) (by kernel_rfl) (fun _ _ _ h => h) (Or.inl ⟨by rfl, ?_⟩) hS4 ?_
              rotate_left
              · (intro wa hSw; go_simp; try with_reducible rfl)
              simp only [Act.put, List.getElem_toArray, List.getElem_cons_zero, List.getElem_cons_succ, List.setIfInBounds_toArray, List.set_cons_zero, List.set_cons_succ]
              have hS9 := IS.out _ (Below.putCs (C := wr.heap.size) (B := Y) HYW.out [.int .i64 ky, .slice ra n rc, .int .i64 fi, .int .i64 ot] 0 _ _ (OS.out _ hS4))
              obtain ⟨⟨x0, q0⟩, z0⟩ := hR.at 0 (by omega)
              obtain ⟨⟨x1, q1⟩, z1⟩ := hR.at 1 (by omega)
              obtain ⟨⟨x2, q2⟩, z2⟩ := hR.at 2 (by omega)
              obtain ⟨⟨x3, q3⟩, z3⟩ := hR.at 3 (by omega)
              have hRlt := hR.lt
              have HBX := Lib.hid (hR.put (vs := [.int .i64 ky, .slice ra n rc, .int .i64 fi, .int .i64 ot]) rfl).box
              have HG := Lib.hid (IntRow.of_list (owns_touch HRO.out (Touch.putCs (lo := Y) (hi := Y + 1) (Nat.le_refl _) (Nat.lt_succ_self _) [.int .i64 ky, .slice ra n rc, .int .i64 fi, .int .i64 ot] 0 _ _ (Touch.refl _ _ _)) (InW.of_owns HRO.out) (.inr HLT.out)) (by have := HGN.out; omega))
              refine wpAnyH_ready (rs := [14]) (by kernel_rfl) (by simp) ?_
              refine AllReadyH.cons (o := _) rfl (fun KT hKT => ?_) AllReadyH.nil
              go_simp
              refine hKT.out _ _ ?_ (fun hHs => ?_)
              · exact hS9
              clear hKT KT
              refine wpAnyH_take (i := 15) (v := ?_) rfl (by kernel_rfl) (by kernel_rfl) (by kernel_rfl) (fun _ _ _ h => h) (Or.inl ⟨by rfl, ?_⟩) hHs ?_
              rotate_left
              · (intro wa hSw; go_simp; try with_reducible rfl)
              simp only [Act.put, List.getElem_toArray, List.getElem_cons_zero, List.getElem_cons_succ, List.setIfInBounds_toArray, List.set_cons_zero, List.set_cons_succ]
              refine wpAnyH_done (by kernel_rfl) ?_ _
              have HE := Lib.hid (OS.out _ hHs)
              clear OS IS hHs hS9 hH0 hS3 hS4 q0 z0 q1 z1 q2 z2 q3 z3 hRlt hR
              go_wp2_with fail
              go_meet
              case rel => exact ⟨Y, ra, rc, rfl, rfl, HE, HBX, by rw [HGN.out] at HG; exact HG⟩
          case rest =>
            obtain ⟨C, ra, rc, rfl, rfl, HB1, HC, GR⟩ := hcut
            have HKB2 := Lib.hid (HKB.out.next HB1.out)
            have OR3 := Lib.hid (ORr.out.below HB1.out (Nat.le_refl _))
            have HQI2 := Lib.hid (And.intro ((HB1.out.cell (p := ⟨ob, oo + i, none⟩) HQI.out.2).trans HQI.out.1) (Nat.lt_of_lt_of_le HQI.out.2 HB1.out.size))
            have HQK2 := Lib.hid (And.intro ((HB1.out.cell (p := ⟨ob, oo + k, none⟩) HQK.out.2).trans HQK.out.1) (Nat.lt_of_lt_of_le HQK.out.2 HB1.out.size))
            clear HKB K ORr HQI HQK HB1
            have HKB := HKB2
            have HQI := HQI2
            have HQK := HQK2
            clear HKB2 HQI2 HQK2
            go_upto_region 14 with fail
            obtain ⟨wx, hwx⟩ : ∃ wx, wc = wx := ⟨_, rfl⟩
            subst hwx
            go_cut [9, 10] (fun s9 s10 wx => ∃ (D : Nat) (ra2 : Option Addr) (rc2 : Nat), s9 = .pointer (some ⟨D, 0, none⟩) ∧ s10 = .bool true ∧ Hid (Below wc.heap.size wc wx) ∧ Hid (BoxN wx D [.int .i64 ky, .slice ra2 n rc2, .int .i64 ot, .int .i64 fi]))
            case first =>
             as_aux_lemma =>
              obtain ⟨S, HSd⟩ : ∃ S : World → Prop, S = fun U => Below wc.heap.size wc U := ⟨_, rfl⟩
              have OS : Hid (∀ wa, S wa → Below wc.heap.size wc wa) := by subst HSd; exact fun _ h => h
              have IS : Hid (∀ wa, Below wc.heap.size wc wa → S wa) := by subst HSd; exact fun _ h => h
              clear HSd
              have KS0 := Lib.hid (IS.out _ (Below.refl _ _).drew)
              go_wp2_with fail
              refine wp_region_held_drew (S := S) (by kernel_rfl) ?_ (fun hH0 => ?_)
              · exact KS0.out
              clear KS0
              obtain ⟨wd, hwd⟩ : ∃ wd, wc.drew = wd := ⟨_, rfl⟩
              rw [hwd] at hH0
              rw [hwd]
              clear hwd
              refine wpAnyH_take (i := 0) (v := ?_) rfl (by kernel_rfl) (by kernel_rfl) (by kernel_rfl) (fun _ _ _ h => h) (Or.inl ⟨by rfl, ?_⟩) hH0 ?_
              rotate_left
              · (intro wa hSw; have K := OS.out _ hSw; have d0 := (HKB.out.next K).cells.1; obtain ⟨d0, d1, d2, d3, d4, d5, d6, d7, d8⟩ := (HKB.out.next K).cells; go_simp; try with_reducible rfl)
              simp only [Act.put, List.getElem_toArray, List.getElem_cons_zero, List.setIfInBounds_toArray, List.set_cons_zero, List.set_cons_succ]
              refine wpAnyH_take (i := 1) (v := ?_) rfl (by kernel_rfl) (by kernel_rfl) (by kernel_rfl) (fun _ _ _ h => h) (Or.inl ⟨by rfl, ?_⟩) hH0 ?_
              rotate_left
              · (intro wa hSw; go_simp; try with_reducible rfl)
              simp only [Act.put, List.getElem_toArray, List.getElem_cons_zero, List.getElem_cons_succ, List.setIfInBounds_toArray, List.set_cons_zero, List.set_cons_succ]
              refine wpAnyH_take (i := 2) (v := ?_) rfl (by kernel_rfl) (by kernel_rfl) (by kernel_rfl) (fun _ _ _ h => h) (Or.inl ⟨by rfl, ?_⟩) hH0 ?_
              rotate_left
              · (intro wa hSw; go_simp; try with_reducible rfl)
              simp only [Act.put, List.getElem_toArray, List.getElem_cons_zero, List.getElem_cons_succ, List.setIfInBounds_toArray, List.set_cons_zero, List.set_cons_succ]
              refine wpAnyH_take (i := 3) (v := ?_) rfl (by kernel_rfl) (by kernel_rfl) (by kernel_rfl) (fun _ _ _ h => h) (Or.inl ⟨by rfl, ?_⟩) hH0 ?_
              rotate_left
              · (intro wa hSw; go_simp; try with_reducible rfl)
              simp only [Act.put, List.getElem_toArray, List.getElem_cons_zero, List.getElem_cons_succ, List.setIfInBounds_toArray, List.set_cons_zero, List.set_cons_succ]
              refine wpAnyH_take (i := 4) (v := ?_) rfl (by kernel_rfl) (by kernel_rfl) (by kernel_rfl) (fun _ _ _ h => h) (Or.inl ⟨by rfl, ?_⟩) hH0 ?_
              rotate_left
              · (intro wa hSw; have K := OS.out _ hSw; have q0 := ((K).cell (p := ⟨ob, oo + k, none⟩) HQK.out.2).trans HQK.out.1; go_simp; try with_reducible rfl)
              simp only [Act.put, List.getElem_toArray, List.getElem_cons_zero, List.getElem_cons_succ, List.setIfInBounds_toArray, List.set_cons_zero, List.set_cons_succ]
              refine wpAnyH_take (i := 5) (v := ?_) rfl (by kernel_rfl) (by kernel_rfl) (by kernel_rfl) (fun _ _ _ h => h) (Or.inl ⟨by rfl, ?_⟩) hH0 ?_
              rotate_left
              · (intro wa hSw; go_simp; try with_reducible rfl)
              simp only [Act.put, List.getElem_toArray, List.getElem_cons_zero, List.getElem_cons_succ, List.setIfInBounds_toArray, List.set_cons_zero, List.set_cons_succ]
              refine wpAnyH_take (i := 6) (v := ?_) rfl (by kernel_rfl) (by kernel_rfl) (by kernel_rfl) (fun _ _ _ h => h) (Or.inl ⟨by rfl, ?_⟩) hH0 ?_
              rotate_left
              · (intro wa hSw; go_simp; try with_reducible rfl)
              simp only [Act.put, List.getElem_toArray, List.getElem_cons_zero, List.getElem_cons_succ, List.setIfInBounds_toArray, List.set_cons_zero, List.set_cons_succ]
              refine wpAnyH_take (i := 7) (v := ?_) rfl (by kernel_rfl) (by kernel_rfl) (by kernel_rfl) (fun _ _ _ h => h) (Or.inl ⟨by rfl, ?_⟩) hH0 ?_
              rotate_left
              · (intro wa hSw; go_simp; try with_reducible rfl)
              simp only [Act.put, List.getElem_toArray, List.getElem_cons_zero, List.getElem_cons_succ, List.setIfInBounds_toArray, List.set_cons_zero, List.set_cons_succ]
              refine wpAnyH_take (i := 8) (v := ?_) rfl (by kernel_rfl) (by kernel_rfl) (by kernel_rfl) (fun _ _ _ h => h) (Or.inl ⟨by rfl, ?_⟩) hH0 ?_
              rotate_left
              · (intro wa hSw; have K := OS.out _ hSw; have q0 := ((K).cell (p := ⟨ob, oo + i, none⟩) HQI.out.2).trans HQI.out.1; go_simp; try with_reducible rfl)
              simp only [Act.put, List.getElem_toArray, List.getElem_cons_zero, List.getElem_cons_succ, List.setIfInBounds_toArray, List.set_cons_zero, List.set_cons_succ]
              refine wpAnyH_ready (rs := [9, 13]) (by kernel_rfl) (by simp) ?_
              refine AllReadyH.cons (o := _) rfl (fun KC hKC => ?_) (AllReadyH.cons (o := _) rfl (fun KA hKA => ?_) AllReadyH.nil)
              · go_simp
                have KK := OS.out _ hH0
                refine (CRf.out v u ky ot fi G n _ T14.out T2.out HGN.out (HKB.out.next KK).row).mono ?_
                rintro e wy ⟨rx, ry, rfl, hro, by4⟩
                clear KK
                have hS1 := IS.out _ ((OS.out _ hH0).trans (by4.mono (OS.out _ hH0).size))
                (try go_wp2_with fail)
                refine hKC.out _ _ ?_ (fun hH => ?_)
                · exact hS1
                clear hKC KC hH
                refine wpAnyH_take (i := 10) (v := ?_) rfl (by kernel_rfl) (by kernel_rfl) (by kernel_rfl) (fun _ _ _ h => h) (Or.inl ⟨by rfl, ?_⟩) hS1 ?_
                rotate_left
                · (intro wa hSw; go_simp; try with_reducible rfl)
                simp only [Act.put, List.getElem_toArray, List.getElem_cons_zero, List.getElem_cons_succ, List.setIfInBounds_toArray, List.set_cons_zero, List.set_cons_succ]
                refine wpAnyH_take (i := 11) (v := ?_) rfl (by kernel_rfl) (by kernel_rfl) (by kernel_rfl) (fun _ _ _ h => h) (Or.inl ⟨by rfl, ?_⟩) hS1 ?_
                rotate_left
                · (intro wa hSw; go_simp; try with_reducible rfl)
                simp only [Act.put, List.getElem_toArray, List.getElem_cons_zero, List.getElem_cons_succ, List.setIfInBounds_toArray, List.set_cons_zero, List.set_cons_succ]
                refine wpAnyH_take (i := 12) (v := ?_) rfl (by kernel_rfl) (by kernel_rfl) (by kernel_rfl) (fun _ _ _ h => h) (Or.inl ⟨by rfl, ?_⟩) hS1 ?_
                rotate_left
                · (intro wa hSw; go_simp; try with_reducible rfl)
                simp only [Act.put, List.getElem_toArray, List.getElem_cons_zero, List.getElem_cons_succ, List.setIfInBounds_toArray, List.set_cons_zero, List.set_cons_succ]
                refine wpAnyH_ready (rs := [13]) (by kernel_rfl) (by simp) ?_
                refine AllReadyH.cons (o := _) rfl (fun KA hKA => ?_) AllReadyH.nil
                have hA : Below wy.heap.size wy (wy.alloc (.cells #[.int .i64 0, .slice none 0 0, .int .i64 0, .int .i64 0] 33)) := (Below.refl _ _).alloc (Nat.le_refl _) _
                have hR : ResAt (wy.alloc (.cells #[.int .i64 0, .slice none 0 0, .int .i64 0, .int .i64 0] 33)) wy.heap.size 4 := ResAt.made' rfl rfl
                have HYW : Hid (wc.heap.size ≤ wy.heap.size) := (OS.out _ hS1).size
                have hS3 := IS.out _ ((OS.out _ hS1).trans (hA.mono (OS.out _ hS1).size))
                have HAB := Lib.hid hA
                have HRO := Lib.hid hro
                clear hA hro
                have HLE := Lib.hid (Nat.le_refl wy.heap.size)
                go_simp
                refine hKA.out _ _ ?_ (fun hH => ?_)
                · exact hS3
                clear hKA KA hH
                obtain ⟨wq, hwq⟩ : ∃ wq, wy.alloc (.cells #[.int .i64 0, .slice none 0 0, .int .i64 0, .int .i64 0] 33) = wq := ⟨_, rfl⟩
                rw [hwq] at hS3 hR HAB
                rw [hwq]
                clear hwq
                obtain ⟨Y, hY⟩ : ∃ Y, wy.heap.size = Y := ⟨_, rfl⟩
                rw [hY] at hR HYW HAB HLE
                rw [hY]
                have HYE := Lib.hid hY
                clear hY
                have hS9 := IS.out _ (Below.putCs (C := wc.heap.size) (B := Y) HYW.out [.int .i64 ky, .slice rx n ry, .int .i64 ot, .int .i64 fi] 0 _ _ (OS.out _ hS3))
                obtain ⟨⟨x0, q0⟩, z0⟩ := hR.at 0 (by omega)
                obtain ⟨⟨x1, q1⟩, z1⟩ := hR.at 1 (by omega)
                obtain ⟨⟨x2, q2⟩, z2⟩ := hR.at 2 (by omega)
                obtain ⟨⟨x3, q3⟩, z3⟩ := hR.at 3 (by omega)
                have hRlt := hR.lt
                have HBX := Lib.hid (hR.put (vs := [.int .i64 ky, .slice rx n ry, .int .i64 ot, .int .i64 fi]) rfl).box
                have HG := Lib.hid (IntRow.of_list (owns_below HRO.out (Below.putCs (C := Y) (B := Y) (Nat.le_refl _) [.int .i64 ky, .slice rx n ry, .int .i64 ot, .int .i64 fi] 0 _ _ HAB.out) (Nat.le_of_eq HYE.out)) (by have := HGN.out; omega))
                refine wpAnyH_ready (rs := [14]) (by kernel_rfl) (by simp) ?_
                refine AllReadyH.cons (o := _) rfl (fun KT hKT => ?_) AllReadyH.nil
                go_simp
                refine hKT.out _ _ ?_ (fun hHs => ?_)
                · exact hS9
                clear hKT KT
                refine wpAnyH_take (i := 15) (v := ?_) rfl (by kernel_rfl) (by kernel_rfl) (by kernel_rfl) (fun _ _ _ h => h) (Or.inl ⟨by rfl, ?_⟩) hHs ?_
                rotate_left
                · (intro wa hSw; go_simp; try with_reducible rfl)
                simp only [Act.put, List.getElem_toArray, List.getElem_cons_zero, List.getElem_cons_succ, List.setIfInBounds_toArray, List.set_cons_zero, List.set_cons_succ]
                refine wpAnyH_done (by kernel_rfl) ?_ _
                have HE := Lib.hid (OS.out _ hHs)
                clear OS IS hHs hS9 hH0 hS1 hS3 q0 z0 q1 z1 q2 z2 q3 z3 hRlt hR
                go_wp2_with fail
                go_meet
                case rel => exact ⟨Y, rx, ry, rfl, rfl, HE, HBX⟩
              · have hA : Below wd.heap.size wd (wd.alloc (.cells #[.int .i64 0, .slice none 0 0, .int .i64 0, .int .i64 0] 33)) := (Below.refl _ _).alloc (Nat.le_refl _) _
                have hR : ResAt (wd.alloc (.cells #[.int .i64 0, .slice none 0 0, .int .i64 0, .int .i64 0] 33)) wd.heap.size 4 := ResAt.made' rfl rfl
                have HYW : Hid (wc.heap.size ≤ wd.heap.size) := (OS.out _ hH0).size
                have hS3 := IS.out _ ((OS.out _ hH0).trans (hA.mono (OS.out _ hH0).size))
                have HLT : Hid (wd.heap.size + 1 ≤ (wd.alloc (.cells #[.int .i64 0, .slice none 0 0, .int .i64 0, .int .i64 0] 33)).heap.size) := by show _ ≤ _; simp
                clear hA
                go_simp
                refine hKA.out _ _ ?_ (fun hH => ?_)
                · exact hS3
                clear hKA KA hH
                obtain ⟨wq, hwq⟩ : ∃ wq, wd.alloc (.cells #[.int .i64 0, .slice none 0 0, .int .i64 0, .int .i64 0] 33) = wq := ⟨_, rfl⟩
                rw [hwq] at hS3 hR HLT
                rw [hwq]
                clear hwq
                obtain ⟨Y, hY⟩ : ∃ Y, wd.heap.size = Y := ⟨_, rfl⟩
                rw [hY] at hR HYW HLT
                rw [hY]
                clear hY
                refine wpAnyH_ready (rs := [9]) (by kernel_rfl) (by simp) ?_
                refine AllReadyH.cons (o := _) rfl (fun KC hKC => ?_) AllReadyH.nil
                go_simp
                have KK := OS.out _ hS3
                refine (CRf.out v u ky ot fi G n _ T14.out T2.out HGN.out (HKB.out.next KK).row).mono ?_
                rintro e wy ⟨rx, ry, rfl, hro, by4⟩
                clear KK
                have hS4 := IS.out _ ((OS.out _ hS3).trans (by4.mono (OS.out _ hS3).size))
                replace hR := hR.below by4
                have HRO := Lib.hid hro
                clear hro by4
                (try go_wp2_with fail)
                refine hKC.out _ _ ?_ (fun hH => ?_)
                · exact hS4
                clear hKC KC hH
                refine wpAnyH_take (i := 10) (v := ?_) rfl (by kernel_rfl) (by kernel_rfl) (by kernel_rfl) (fun _ _ _ h => h) (Or.inl ⟨by rfl, ?_⟩) hS4 ?_
                rotate_left
                · (intro wa hSw; go_simp; try with_reducible rfl)
                simp only [Act.put, List.getElem_toArray, List.getElem_cons_zero, List.getElem_cons_succ, List.setIfInBounds_toArray, List.set_cons_zero, List.set_cons_succ]
                refine wpAnyH_take (i := 11) (v := ?_) rfl (by kernel_rfl) (by kernel_rfl) (by kernel_rfl) (fun _ _ _ h => h) (Or.inl ⟨by rfl, ?_⟩) hS4 ?_
                rotate_left
                · (intro wa hSw; go_simp; try with_reducible rfl)
                simp only [Act.put, List.getElem_toArray, List.getElem_cons_zero, List.getElem_cons_succ, List.setIfInBounds_toArray, List.set_cons_zero, List.set_cons_succ]
                refine wpAnyH_take (i := 12) (v := ?_) rfl (by kernel_rfl) (by kernel_rfl) (by kernel_rfl) (fun _ _ _ h => h) (Or.inl ⟨by rfl, ?_⟩) hS4 ?_
                rotate_left
                · (intro wa hSw; go_simp; try with_reducible rfl)
                simp only [Act.put, List.getElem_toArray, List.getElem_cons_zero, List.getElem_cons_succ, List.setIfInBounds_toArray, List.set_cons_zero, List.set_cons_succ]
                have hS9 := IS.out _ (Below.putCs (C := wc.heap.size) (B := Y) HYW.out [.int .i64 ky, .slice rx n ry, .int .i64 ot, .int .i64 fi] 0 _ _ (OS.out _ hS4))
                obtain ⟨⟨x0, q0⟩, z0⟩ := hR.at 0 (by omega)
                obtain ⟨⟨x1, q1⟩, z1⟩ := hR.at 1 (by omega)
                obtain ⟨⟨x2, q2⟩, z2⟩ := hR.at 2 (by omega)
                obtain ⟨⟨x3, q3⟩, z3⟩ := hR.at 3 (by omega)
                have hRlt := hR.lt
                have HBX := Lib.hid (hR.put (vs := [.int .i64 ky, .slice rx n ry, .int .i64 ot, .int .i64 fi]) rfl).box
                have HG := Lib.hid (IntRow.of_list (owns_touch HRO.out (Touch.putCs (lo := Y) (hi := Y + 1) (Nat.le_refl _) (Nat.lt_succ_self _) [.int .i64 ky, .slice rx n ry, .int .i64 ot, .int .i64 fi] 0 _ _ (Touch.refl _ _ _)) (InW.of_owns HRO.out) (.inr HLT.out)) (by have := HGN.out; omega))
                refine wpAnyH_ready (rs := [14]) (by kernel_rfl) (by simp) ?_
                refine AllReadyH.cons (o := _) rfl (fun KT hKT => ?_) AllReadyH.nil
                go_simp
                refine hKT.out _ _ ?_ (fun hHs => ?_)
                · exact hS9
                clear hKT KT
                refine wpAnyH_take (i := 15) (v := ?_) rfl (by kernel_rfl) (by kernel_rfl) (by kernel_rfl) (fun _ _ _ h => h) (Or.inl ⟨by rfl, ?_⟩) hHs ?_
                rotate_left
                · (intro wa hSw; go_simp; try with_reducible rfl)
                simp only [Act.put, List.getElem_toArray, List.getElem_cons_zero, List.getElem_cons_succ, List.setIfInBounds_toArray, List.set_cons_zero, List.set_cons_succ]
                refine wpAnyH_done (by kernel_rfl) ?_ _
                have HE := Lib.hid (OS.out _ hHs)
                clear OS IS hHs hS9 hH0 hS3 hS4 q0 z0 q1 z1 q2 z2 q3 z3 hRlt hR
                go_wp2_with fail
                go_meet
                case rel => exact ⟨Y, rx, ry, rfl, rfl, HE, HBX⟩
            case rest =>
              obtain ⟨D, ra2, rc2, rfl, rfl, HB1, HD⟩ := hcut
              have HKB2 := Lib.hid (HKB.out.next HB1.out)
              have OR4 := Lib.hid (OR3.out.below HB1.out (Nat.le_refl _))
              have GR2 := Lib.hid (GR.out.below HB1.out (Nat.le_refl _))
              have HC2 := Lib.hid (HC.out.below HB1.out)
              have HQI2 := Lib.hid (And.intro ((HB1.out.cell (p := ⟨ob, oo + i, none⟩) HQI.out.2).trans HQI.out.1) (Nat.lt_of_lt_of_le HQI.out.2 HB1.out.size))
              have HQK2 := Lib.hid (And.intro ((HB1.out.cell (p := ⟨ob, oo + k, none⟩) HQK.out.2).trans HQK.out.1) (Nat.lt_of_lt_of_le HQK.out.2 HB1.out.size))
              clear HKB OR3 GR HC HQI HQK HB1
              have HKB := HKB2
              have HQI := HQI2
              have HQK := HQK2
              have HC := HC2
              clear HKB2 HQI2 HQK2 HC2
              obtain ⟨Z, hZ⟩ : ∃ Z, rsnT b ky fi ot n (getI G) = Z := ⟨_, rfl⟩
              have CRz : Hid (∀ wa, BookRow wa (.slice fa b.nf fc) (.slice la b.nl lc) (.slice ga b.m gc) (.slice qa b.nfa qc) (.slice ta b.nta tc) b → IntRow wa (.slice ra n rc) n (getI G) → Below w1.heap.size w1 wa → Calls Tryz.prog 10 #[.agg #[.slice fa b.nf fc, .int .i64 b.win, .int .i64 b.draw, .int .i64 b.loss, .slice la b.nl lc, .bool b.again, .slice ga b.m gc, .slice qa b.nfa qc, .slice ta b.nta tc], .agg #[.int .i64 ky, .slice ra n rc, .int .i64 fi, .int .i64 ot]] wa fun e w' => e = .returned (.string Z) ∧ Below wa.heap.size wa w') := fun wa h1 h2 h3 => by
                rw [← hZ]; exact CRt.out ky fi ot _ n _ wa T9.out hn5 T11.out T12.out h1 h2 h3
              have hzn : Z ≠ ⟨#[]⟩ := by rw [← hZ]; exact rsnT_ne _ _ _ _ _ _
              have g0 : decide (fi ≤ ot) = false := decide_eq_false (by have := HLT.out; omega)
              have g1 : (ot != ot) = false := by simp
              have g2 : (fi != fi) = false := by simp
              have g3 : (ky != ky) = false := by simp
              have g6 : ¬ Z.toList = [] := by rw [ByteArray.toList_eq]; intro e; exact hzn (ByteArray.ext (Array.toList_inj.mp e))
              have g4 : (Z.toList == []) = false := by rw [beq_eq_false_iff_ne]; exact g6
              have g5 : decide (Z.toList = []) = false := decide_eq_false g6
              have g7 : (Z.toList == (⟨#[]⟩ : ByteArray).toList) = false := bytes_ne hzn
              clear hZ hzn
              go_upto_region 15 with fail
              go_cut [151] (fun s wx => s = .bool false ∧ Hid (Below wc.heap.size wc wx))
              case first =>
               as_aux_lemma =>
                obtain ⟨S, HSd⟩ : ∃ S : World → Prop, S = fun w' => Below wc.heap.size wc w' := ⟨_, rfl⟩
                have KS : Hid (∀ wa wb, S wa → Below wa.heap.size wa wb → S wb) := by subst HSd; exact fun wa wb h bb => h.trans (bb.mono h.size)
                have OS : Hid (∀ wa, S wa → Below wc.heap.size wc wa) := by subst HSd; exact fun wa h => h
                have IS : Hid (∀ wa, Below wc.heap.size wc wa → S wa) := by subst HSd; exact fun wa h => h
                clear HSd
                go_wp2_with fail
                refine wp_region_held_drew (S := S) (by kernel_rfl) ?_ (fun hHeld => ?_)
                · exact IS.out _ ((Below.refl _ _).drew)
                refine wpAnyH_take (i := 0) (v := ?_) rfl (by kernel_rfl) (by kernel_rfl) (by kernel_rfl) (fun _ _ _ h => h) (Or.inl ⟨by rfl, ?_⟩) hHeld ?_
                rotate_left
                · (intro wa hSw; go_simp; try with_reducible rfl)
                simp only [Act.put, List.getElem_toArray, List.getElem_cons_zero, List.setIfInBounds_toArray, List.set_cons_zero, List.set_cons_succ]
                refine wpAnyH_take (i := 1) (v := ?_) rfl (by kernel_rfl) (by kernel_rfl) (by kernel_rfl) (fun _ _ _ h => h) (Or.inl ⟨by rfl, ?_⟩) hHeld ?_
                rotate_left
                · (intro wa hSw; go_simp; try with_reducible rfl)
                simp only [Act.put, List.getElem_toArray, List.getElem_cons_zero, List.getElem_cons_succ, List.setIfInBounds_toArray, List.set_cons_zero, List.set_cons_succ]
                refine wpAnyH_take (i := 2) (v := ?_) rfl (by kernel_rfl) (by kernel_rfl) (by kernel_rfl) (fun _ _ _ h => h) (Or.inl ⟨by rfl, ?_⟩) hHeld ?_
                rotate_left
                · (intro wa hSw; go_simp; try with_reducible rfl)
                simp only [Act.put, List.getElem_toArray, List.getElem_cons_zero, List.getElem_cons_succ, List.setIfInBounds_toArray, List.set_cons_zero, List.set_cons_succ]
                refine wpAnyH_take (i := 3) (v := ?_) rfl (by kernel_rfl) (by kernel_rfl) (by kernel_rfl) (fun _ _ _ h => h) (Or.inl ⟨by rfl, ?_⟩) hHeld ?_
                rotate_left
                · (intro wa hSw; go_simp; try with_reducible rfl)
                simp only [Act.put, List.getElem_toArray, List.getElem_cons_zero, List.getElem_cons_succ, List.setIfInBounds_toArray, List.set_cons_zero, List.set_cons_succ]
                refine wpAnyH_take (i := 4) (v := ?_) rfl (by kernel_rfl) (by kernel_rfl) (by kernel_rfl) (fun _ _ _ h => h) (Or.inl ⟨by rfl, ?_⟩) hHeld ?_
                rotate_left
                · (intro wa hSw; go_simp; try with_reducible rfl)
                simp only [Act.put, List.getElem_toArray, List.getElem_cons_zero, List.getElem_cons_succ, List.setIfInBounds_toArray, List.set_cons_zero, List.set_cons_succ]
                refine wpAnyH_take (i := 5) (v := ?_) rfl (by kernel_rfl) (by kernel_rfl) (by kernel_rfl) (fun _ _ _ h => h) (Or.inl ⟨by rfl, ?_⟩) hHeld ?_
                rotate_left
                · (intro wa hSw; go_simp; try with_reducible rfl)
                simp only [Act.put, List.getElem_toArray, List.getElem_cons_zero, List.getElem_cons_succ, List.setIfInBounds_toArray, List.set_cons_zero, List.set_cons_succ]
                refine wpAnyH_take (i := 6) (v := ?_) rfl (by kernel_rfl) (by kernel_rfl) (by kernel_rfl) (fun _ _ _ h => h) (Or.inl ⟨by rfl, ?_⟩) hHeld ?_
                rotate_left
                · (intro wa hSw; go_simp; try with_reducible rfl)
                simp only [Act.put, List.getElem_toArray, List.getElem_cons_zero, List.getElem_cons_succ, List.setIfInBounds_toArray, List.set_cons_zero, List.set_cons_succ]
                refine wpAnyH_take (i := 7) (v := ?_) rfl (by kernel_rfl) (by kernel_rfl) (by kernel_rfl) (fun _ _ _ h => h) (Or.inl ⟨by rfl, ?_⟩) hHeld ?_
                rotate_left
                · (intro wa hSw; go_simp; try with_reducible rfl)
                simp only [Act.put, List.getElem_toArray, List.getElem_cons_zero, List.getElem_cons_succ, List.setIfInBounds_toArray, List.set_cons_zero, List.set_cons_succ]
                refine wpAnyH_take (i := 8) (v := ?_) rfl (by kernel_rfl) (by kernel_rfl) (by kernel_rfl) (fun _ _ _ h => h) (Or.inl ⟨by rfl, ?_⟩) hHeld ?_
                rotate_left
                · (intro wa hSw; have K := OS.out _ hSw; have q0 := (HC.out.below K).2 2 _ rfl; go_simp; try with_reducible rfl)
                simp only [Act.put, List.getElem_toArray, List.getElem_cons_zero, List.getElem_cons_succ, List.setIfInBounds_toArray, List.set_cons_zero, List.set_cons_succ]
                refine wpAnyH_take (i := 9) (v := ?_) rfl (by kernel_rfl) (by kernel_rfl) (by kernel_rfl) (fun _ _ _ h => h) (Or.inl ⟨by rfl, ?_⟩) hHeld ?_
                rotate_left
                · (intro wa hSw; go_simp; try with_reducible rfl)
                simp only [Act.put, List.getElem_toArray, List.getElem_cons_zero, List.getElem_cons_succ, List.setIfInBounds_toArray, List.set_cons_zero, List.set_cons_succ]
                refine wpAnyH_take (i := 10) (v := ?_) rfl (by kernel_rfl) (by kernel_rfl) (by kernel_rfl) (fun _ _ _ h => h) (Or.inl ⟨by rfl, ?_⟩) hHeld ?_
                rotate_left
                · (intro wa hSw; have K := OS.out _ hSw; have q0 := (HC.out.below K).2 3 _ rfl; go_simp; try with_reducible rfl)
                simp only [Act.put, List.getElem_toArray, List.getElem_cons_zero, List.getElem_cons_succ, List.setIfInBounds_toArray, List.set_cons_zero, List.set_cons_succ]
                refine wpAnyH_take (i := 11) (v := ?_) rfl (by kernel_rfl) (by kernel_rfl) (by kernel_rfl) (fun _ _ _ h => h) (Or.inl ⟨by rfl, ?_⟩) hHeld ?_
                rotate_left
                · (intro wa hSw; go_simp; try with_reducible rfl)
                simp only [Act.put, List.getElem_toArray, List.getElem_cons_zero, List.getElem_cons_succ, List.setIfInBounds_toArray, List.set_cons_zero, List.set_cons_succ]
                refine wpAnyH_take (i := 12) (v := ?_) rfl (by kernel_rfl) (by kernel_rfl) (by kernel_rfl) (fun _ _ _ h => h) (Or.inl ⟨by rfl, ?_⟩) hHeld ?_
                rotate_left
                · (intro wa hSw; go_simp; try with_reducible rfl)
                simp only [Act.put, List.getElem_toArray, List.getElem_cons_zero, List.getElem_cons_succ, List.setIfInBounds_toArray, List.set_cons_zero, List.set_cons_succ]
                refine wpAnyH_take (i := 13) (v := ?_) rfl (by kernel_rfl) (by kernel_rfl) (by kernel_rfl) (fun _ _ _ h => h) (Or.inl ⟨by rfl, ?_⟩) hHeld ?_
                rotate_left
                · (intro wa hSw; go_simp; try with_reducible rfl)
                simp only [Act.put, List.getElem_toArray, List.getElem_cons_zero, List.getElem_cons_succ, List.setIfInBounds_toArray, List.set_cons_zero, List.set_cons_succ]
                as_aux_lemma =>
                 refine wpAnyH_take (i := 14) (v := ?_) rfl (by kernel_rfl) (by kernel_rfl) (by kernel_rfl) (fun _ _ _ h => h) (Or.inl ⟨by rfl, ?_⟩) hHeld ?_
                 rotate_left
                 · (intro wa hSw; go_simp; try with_reducible rfl)
                 simp only [Act.put, List.getElem_toArray, List.getElem_cons_zero, List.getElem_cons_succ, List.setIfInBounds_toArray, List.set_cons_zero, List.set_cons_succ]
                 refine wpAnyH_take (i := 15) (v := ?_) rfl (by kernel_rfl) (by kernel_rfl) (by kernel_rfl) (fun _ _ _ h => h) (Or.inl ⟨by rfl, ?_⟩) hHeld ?_
                 rotate_left
                 · (intro wa hSw; have K := OS.out _ hSw; have q0 := (HD.out.below K).2 2 _ rfl; go_simp; try with_reducible rfl)
                 simp only [Act.put, List.getElem_toArray, List.getElem_cons_zero, List.getElem_cons_succ, List.setIfInBounds_toArray, List.set_cons_zero, List.set_cons_succ]
                 refine wpAnyH_take (i := 16) (v := ?_) rfl (by kernel_rfl) (by kernel_rfl) (by kernel_rfl) (fun _ _ _ h => h) (Or.inl ⟨by rfl, ?_⟩) hHeld ?_
                 rotate_left
                 · (intro wa hSw; go_simp; try with_reducible rfl)
                 simp only [Act.put, List.getElem_toArray, List.getElem_cons_zero, List.getElem_cons_succ, List.setIfInBounds_toArray, List.set_cons_zero, List.set_cons_succ]
                 refine wpAnyH_take (i := 17) (v := ?_) rfl (by kernel_rfl) (by kernel_rfl) (by kernel_rfl) (fun _ _ _ h => h) (Or.inl ⟨by rfl, ?_⟩) hHeld ?_
                 rotate_left
                 · (intro wa hSw; have K := OS.out _ hSw; have q0 := (HC.out.below K).2 3 _ rfl; go_simp; try with_reducible rfl)
                 simp only [Act.put, List.getElem_toArray, List.getElem_cons_zero, List.getElem_cons_succ, List.setIfInBounds_toArray, List.set_cons_zero, List.set_cons_succ]
                 refine wpAnyH_take (i := 18) (v := ?_) rfl (by kernel_rfl) (by kernel_rfl) (by kernel_rfl) (fun _ _ _ h => h) (Or.inl ⟨by rfl, ?_⟩) hHeld ?_
                 rotate_left
                 · (intro wa hSw; go_simp; try with_reducible rfl)
                 simp only [Act.put, List.getElem_toArray, List.getElem_cons_zero, List.getElem_cons_succ, List.setIfInBounds_toArray, List.set_cons_zero, List.set_cons_succ]
                 refine wpAnyH_take (i := 19) (v := ?_) rfl (by kernel_rfl) (by kernel_rfl) (by kernel_rfl) (fun _ _ _ h => h) (Or.inl ⟨by rfl, ?_⟩) hHeld ?_
                 rotate_left
                 · (intro wa hSw; go_simp; try with_reducible rfl)
                 simp only [Act.put, List.getElem_toArray, List.getElem_cons_zero, List.getElem_cons_succ, List.setIfInBounds_toArray, List.set_cons_zero, List.set_cons_succ]
                 refine wpAnyH_take (i := 20) (v := ?_) rfl (by kernel_rfl) (by kernel_rfl) (by kernel_rfl) (fun _ _ _ h => h) (Or.inl ⟨by rfl, ?_⟩) hHeld ?_
                 rotate_left
                 · (intro wa hSw; go_simp; try with_reducible rfl)
                 simp only [Act.put, List.getElem_toArray, List.getElem_cons_zero, List.getElem_cons_succ, List.setIfInBounds_toArray, List.set_cons_zero, List.set_cons_succ]
                 refine wpAnyH_take (i := 21) (v := ?_) rfl (by kernel_rfl) (by kernel_rfl) (by kernel_rfl) (fun _ _ _ h => h) (Or.inl ⟨by rfl, ?_⟩) hHeld ?_
                 rotate_left
                 · (intro wa hSw; go_simp; try with_reducible rfl)
                 simp only [Act.put, List.getElem_toArray, List.getElem_cons_zero, List.getElem_cons_succ, List.setIfInBounds_toArray, List.set_cons_zero, List.set_cons_succ]
                 refine wpAnyH_take (i := 22) (v := ?_) rfl (by kernel_rfl) (by kernel_rfl) (by kernel_rfl) (fun _ _ _ h => h) (Or.inl ⟨by rfl, ?_⟩) hHeld ?_
                 rotate_left
                 · (intro wa hSw; have K := OS.out _ hSw; have q0 := (HD.out.below K).2 3 _ rfl; go_simp; try with_reducible rfl)
                 simp only [Act.put, List.getElem_toArray, List.getElem_cons_zero, List.getElem_cons_succ, List.setIfInBounds_toArray, List.set_cons_zero, List.set_cons_succ]
                 refine wpAnyH_take (i := 23) (v := ?_) rfl (by kernel_rfl) (by kernel_rfl) (by kernel_rfl) (fun _ _ _ h => h) (Or.inl ⟨by rfl, ?_⟩) hHeld ?_
                 rotate_left
                 · (intro wa hSw; go_simp; try with_reducible rfl)
                 simp only [Act.put, List.getElem_toArray, List.getElem_cons_zero, List.getElem_cons_succ, List.setIfInBounds_toArray, List.set_cons_zero, List.set_cons_succ]
                 refine wpAnyH_take (i := 24) (v := ?_) rfl (by kernel_rfl) (by kernel_rfl) (by kernel_rfl) (fun _ _ _ h => h) (Or.inl ⟨by rfl, ?_⟩) hHeld ?_
                 rotate_left
                 · (intro wa hSw; have K := OS.out _ hSw; have q0 := (HC.out.below K).2 2 _ rfl; go_simp; try with_reducible rfl)
                 simp only [Act.put, List.getElem_toArray, List.getElem_cons_zero, List.getElem_cons_succ, List.setIfInBounds_toArray, List.set_cons_zero, List.set_cons_succ]
                 refine wpAnyH_take (i := 25) (v := ?_) rfl (by kernel_rfl) (by kernel_rfl) (by kernel_rfl) (fun _ _ _ h => h) (Or.inl ⟨by rfl, ?_⟩) hHeld ?_
                 rotate_left
                 · (intro wa hSw; go_simp; try with_reducible rfl)
                 simp only [Act.put, List.getElem_toArray, List.getElem_cons_zero, List.getElem_cons_succ, List.setIfInBounds_toArray, List.set_cons_zero, List.set_cons_succ]
                 refine wpAnyH_take (i := 26) (v := ?_) rfl (by kernel_rfl) (by kernel_rfl) (by kernel_rfl) (fun _ _ _ h => h) (Or.inl ⟨by rfl, ?_⟩) hHeld ?_
                 rotate_left
                 · (intro wa hSw; go_simp; try with_reducible rfl)
                 simp only [Act.put, List.getElem_toArray, List.getElem_cons_zero, List.getElem_cons_succ, List.setIfInBounds_toArray, List.set_cons_zero, List.set_cons_succ]
                 refine wpAnyH_take (i := 27) (v := ?_) rfl (by kernel_rfl) (by kernel_rfl) (by kernel_rfl) (fun _ _ _ h => h) (Or.inl ⟨by rfl, ?_⟩) hHeld ?_
                 rotate_left
                 · (intro wa hSw; go_simp; try with_reducible rfl)
                 simp only [Act.put, List.getElem_toArray, List.getElem_cons_zero, List.getElem_cons_succ, List.setIfInBounds_toArray, List.set_cons_zero, List.set_cons_succ]
                 as_aux_lemma =>
                  refine wpAnyH_take (i := 28) (v := ?_) rfl (by kernel_rfl) (by kernel_rfl) (by kernel_rfl) (fun _ _ _ h => h) (Or.inl ⟨by rfl, ?_⟩) hHeld ?_
                  rotate_left
                  · (intro wa hSw; go_simp; try with_reducible rfl)
                  simp only [Act.put, List.getElem_toArray, List.getElem_cons_zero, List.getElem_cons_succ, List.setIfInBounds_toArray, List.set_cons_zero, List.set_cons_succ]
                  refine wpAnyH_take (i := 29) (v := ?_) rfl (by kernel_rfl) (by kernel_rfl) (by kernel_rfl) (fun _ _ _ h => h) (Or.inl ⟨by rfl, ?_⟩) hHeld ?_
                  rotate_left
                  · (intro wa hSw; have K := OS.out _ hSw; have q0 := (HD.out.below K).2 0 _ rfl; go_simp; try with_reducible rfl)
                  simp only [Act.put, List.getElem_toArray, List.getElem_cons_zero, List.getElem_cons_succ, List.setIfInBounds_toArray, List.set_cons_zero, List.set_cons_succ]
                  refine wpAnyH_take (i := 30) (v := ?_) rfl (by kernel_rfl) (by kernel_rfl) (by kernel_rfl) (fun _ _ _ h => h) (Or.inl ⟨by rfl, ?_⟩) hHeld ?_
                  rotate_left
                  · (intro wa hSw; go_simp; try with_reducible rfl)
                  simp only [Act.put, List.getElem_toArray, List.getElem_cons_zero, List.getElem_cons_succ, List.setIfInBounds_toArray, List.set_cons_zero, List.set_cons_succ]
                  refine wpAnyH_take (i := 31) (v := ?_) rfl (by kernel_rfl) (by kernel_rfl) (by kernel_rfl) (fun _ _ _ h => h) (Or.inl ⟨by rfl, ?_⟩) hHeld ?_
                  rotate_left
                  · (intro wa hSw; have K := OS.out _ hSw; have q0 := (HC.out.below K).2 0 _ rfl; go_simp; try with_reducible rfl)
                  simp only [Act.put, List.getElem_toArray, List.getElem_cons_zero, List.getElem_cons_succ, List.setIfInBounds_toArray, List.set_cons_zero, List.set_cons_succ]
                  refine wpAnyH_take (i := 32) (v := ?_) rfl (by kernel_rfl) (by kernel_rfl) (by kernel_rfl) (fun _ _ _ h => h) (Or.inl ⟨by rfl, ?_⟩) hHeld ?_
                  rotate_left
                  · (intro wa hSw; go_simp; try with_reducible rfl)
                  simp only [Act.put, List.getElem_toArray, List.getElem_cons_zero, List.getElem_cons_succ, List.setIfInBounds_toArray, List.set_cons_zero, List.set_cons_succ]
                  refine wpAnyH_take (i := 33) (v := ?_) rfl (by kernel_rfl) (by kernel_rfl) (by kernel_rfl) (fun _ _ _ h => h) (Or.inl ⟨by rfl, ?_⟩) hHeld ?_
                  rotate_left
                  · (intro wa hSw; go_simp; try with_reducible rfl)
                  simp only [Act.put, List.getElem_toArray, List.getElem_cons_zero, List.getElem_cons_succ, List.setIfInBounds_toArray, List.set_cons_zero, List.set_cons_succ]
                  refine wpAnyH_take (i := 34) (v := ?_) rfl (by kernel_rfl) (by kernel_rfl) (by kernel_rfl) (fun _ _ _ h => h) (Or.inl ⟨by rfl, ?_⟩) hHeld ?_
                  rotate_left
                  · (intro wa hSw; go_simp; try with_reducible rfl)
                  simp only [Act.put, List.getElem_toArray, List.getElem_cons_zero, List.getElem_cons_succ, List.setIfInBounds_toArray, List.set_cons_zero, List.set_cons_succ]
                  refine wpAnyH_take (i := 35) (v := ?_) rfl (by kernel_rfl) (by kernel_rfl) (by kernel_rfl) (fun _ _ _ h => h) (Or.inl ⟨by rfl, ?_⟩) hHeld ?_
                  rotate_left
                  · (intro wa hSw; go_simp; try with_reducible rfl)
                  simp only [Act.put, List.getElem_toArray, List.getElem_cons_zero, List.getElem_cons_succ, List.setIfInBounds_toArray, List.set_cons_zero, List.set_cons_succ]
                  refine wpAnyH_take (i := 36) (v := ?_) rfl (by kernel_rfl) (by kernel_rfl) (by kernel_rfl) (fun _ _ _ h => h) (Or.inl ⟨by rfl, ?_⟩) hHeld ?_
                  rotate_left
                  · (intro wa hSw; go_simp; try with_reducible rfl)
                  simp only [Act.put, List.getElem_toArray, List.getElem_cons_zero, List.getElem_cons_succ, List.setIfInBounds_toArray, List.set_cons_zero, List.set_cons_succ]
                  refine wpAnyH_take (i := 37) (v := ?_) rfl (by kernel_rfl) (by kernel_rfl) (by kernel_rfl) (fun _ _ _ h => h) (Or.inl ⟨by rfl, ?_⟩) hHeld ?_
                  rotate_left
                  · (intro wa hSw; have K := OS.out _ hSw; obtain ⟨d0, d1, d2, d3, d4, d5, d6, d7, d8⟩ := (HKB.out.next K).cells; go_simp; try with_reducible rfl)
                  simp only [Act.put, List.getElem_toArray, List.getElem_cons_zero, List.getElem_cons_succ, List.setIfInBounds_toArray, List.set_cons_zero, List.set_cons_succ]
                  refine wpAnyH_take (i := 38) (v := ?_) rfl (by kernel_rfl) (by kernel_rfl) (by kernel_rfl) (fun _ _ _ h => h) (Or.inl ⟨by rfl, ?_⟩) hHeld ?_
                  rotate_left
                  · (intro wa hSw; go_simp; try with_reducible rfl)
                  simp only [Act.put, List.getElem_toArray, List.getElem_cons_zero, List.getElem_cons_succ, List.setIfInBounds_toArray, List.set_cons_zero, List.set_cons_succ]
                  refine wpAnyH_take (i := 39) (v := ?_) rfl (by kernel_rfl) (by kernel_rfl) (by kernel_rfl) (fun _ _ _ h => h) (Or.inl ⟨by rfl, ?_⟩) hHeld ?_
                  rotate_left
                  · (intro wa hSw; have K := OS.out _ hSw; have q0 := (HC.out.below K).2 0 _ rfl; go_simp; try with_reducible rfl)
                  simp only [Act.put, List.getElem_toArray, List.getElem_cons_zero, List.getElem_cons_succ, List.setIfInBounds_toArray, List.set_cons_zero, List.set_cons_succ]
                  refine wpAnyH_ready (rs := [40]) (by kernel_rfl) (by simp) ?_
                  refine AllReadyH.cons (o := _) rfl (fun K hK => ?_) AllReadyH.nil
                  go_simp
                  have KK := OS.out _ hHeld
                  refine (CHs.out _ _ _ ky _ T4.out (HKB.out.next KK).row.2.1).mono ?_
                  rintro e w201 ⟨rfl, b201⟩
                  clear KK
                  (try go_wp2_with fail)
                  refine hK.out _ _ ?_ (fun hHeld201 => ?_)
                  · exact KS.out _ _ hHeld b201
                  clear hK K
                  refine wpAnyH_take (i := 41) (v := ?_) rfl (by kernel_rfl) (by kernel_rfl) (by kernel_rfl) (fun _ _ _ h => h) (Or.inl ⟨by rfl, ?_⟩) hHeld201 ?_
                  rotate_left
                  · (intro wa hSw; go_simp; try with_reducible rfl)
                  simp only [Act.put, List.getElem_toArray, List.getElem_cons_zero, List.getElem_cons_succ, List.setIfInBounds_toArray, List.set_cons_zero, List.set_cons_succ]
                  as_aux_lemma =>
                   refine wpAnyH_take (i := 42) (v := ?_) rfl (by kernel_rfl) (by kernel_rfl) (by kernel_rfl) (fun _ _ _ h => h) (Or.inl ⟨by rfl, ?_⟩) hHeld201 ?_
                   rotate_left
                   · (intro wa hSw; go_simp; try with_reducible rfl)
                   simp only [Act.put, List.getElem_toArray, List.getElem_cons_zero, List.getElem_cons_succ, List.setIfInBounds_toArray, List.set_cons_zero, List.set_cons_succ]
                   refine wpAnyH_take (i := 43) (v := ?_) rfl (by kernel_rfl) (by kernel_rfl) (by kernel_rfl) (fun _ _ _ h => h) (Or.inl ⟨by rfl, ?_⟩) hHeld201 ?_
                   rotate_left
                   · (intro wa hSw; go_simp; try with_reducible rfl)
                   simp only [Act.put, List.getElem_toArray, List.getElem_cons_zero, List.getElem_cons_succ, List.setIfInBounds_toArray, List.set_cons_zero, List.set_cons_succ]
                   refine wpAnyH_take (i := 44) (v := ?_) rfl (by kernel_rfl) (by kernel_rfl) (by kernel_rfl) (fun _ _ _ h => h) (Or.inl ⟨by rfl, ?_⟩) hHeld201 ?_
                   rotate_left
                   · (intro wa hSw; go_simp; try with_reducible rfl)
                   simp only [Act.put, List.getElem_toArray, List.getElem_cons_zero, List.getElem_cons_succ, List.setIfInBounds_toArray, List.set_cons_zero, List.set_cons_succ]
                   refine wpAnyH_take (i := 45) (v := ?_) rfl (by kernel_rfl) (by kernel_rfl) (by kernel_rfl) (fun _ _ _ h => h) (Or.inl ⟨by rfl, ?_⟩) hHeld201 ?_
                   rotate_left
                   · (intro wa hSw; have K := OS.out _ hSw; have q0 := (HC.out.below K).2 1 _ rfl; go_simp; try with_reducible rfl)
                   simp only [Act.put, List.getElem_toArray, List.getElem_cons_zero, List.getElem_cons_succ, List.setIfInBounds_toArray, List.set_cons_zero, List.set_cons_succ]
                   refine wpAnyH_take (i := 46) (v := ?_) rfl (by kernel_rfl) (by kernel_rfl) (by kernel_rfl) (fun _ _ _ h => h) (Or.inl ⟨by rfl, ?_⟩) hHeld201 ?_
                   rotate_left
                   · (intro wa hSw; go_simp; try with_reducible rfl)
                   simp only [Act.put, List.getElem_toArray, List.getElem_cons_zero, List.getElem_cons_succ, List.setIfInBounds_toArray, List.set_cons_zero, List.set_cons_succ]
                   refine wpAnyH_take (i := 47) (v := ?_) rfl (by kernel_rfl) (by kernel_rfl) (by kernel_rfl) (fun _ _ _ h => h) (Or.inl ⟨by rfl, ?_⟩) hHeld201 ?_
                   rotate_left
                   · (intro wa hSw; go_simp; try with_reducible rfl)
                   simp only [Act.put, List.getElem_toArray, List.getElem_cons_zero, List.getElem_cons_succ, List.setIfInBounds_toArray, List.set_cons_zero, List.set_cons_succ]
                   refine wpAnyH_take (i := 48) (v := ?_) rfl (by kernel_rfl) (by kernel_rfl) (by kernel_rfl) (fun _ _ _ h => h) (Or.inl ⟨by rfl, ?_⟩) hHeld201 ?_
                   rotate_left
                   · (intro wa hSw; go_simp; try with_reducible rfl)
                   simp only [Act.put, List.getElem_toArray, List.getElem_cons_zero, List.getElem_cons_succ, List.setIfInBounds_toArray, List.set_cons_zero, List.set_cons_succ]
                   refine wpAnyH_take (i := 49) (v := ?_) rfl (by kernel_rfl) (by kernel_rfl) (by kernel_rfl) (fun _ _ _ h => h) (Or.inl ⟨by rfl, ?_⟩) hHeld201 ?_
                   rotate_left
                   · (intro wa hSw; have K := OS.out _ hSw; have q0 := ((K).cell (p := ⟨ob, oo + i, none⟩) HQI.out.2).trans HQI.out.1; go_simp; try with_reducible rfl)
                   simp only [Act.put, List.getElem_toArray, List.getElem_cons_zero, List.getElem_cons_succ, List.setIfInBounds_toArray, List.set_cons_zero, List.set_cons_succ]
                   refine wpAnyH_ready (rs := [50]) (by kernel_rfl) (by simp) ?_
                   refine AllReadyH.cons (o := _) rfl (fun K hK => ?_) AllReadyH.nil
                   go_simp
                   have KK := OS.out _ hHeld201
                   refine (CHs.out _ _ _ u _ T5.out (GR2.out.below KK (Nat.le_refl _))).mono ?_
                   rintro e w202 ⟨rfl, b202⟩
                   clear KK
                   (try go_wp2_with fail)
                   refine hK.out _ _ ?_ (fun hHeld202 => ?_)
                   · exact KS.out _ _ hHeld201 b202
                   clear hK K
                   clear hHeld201
                   refine wpAnyH_take (i := 51) (v := ?_) rfl (by kernel_rfl) (by kernel_rfl) (by kernel_rfl) (fun _ _ _ h => h) (Or.inl ⟨by rfl, ?_⟩) hHeld202 ?_
                   rotate_left
                   · (intro wa hSw; go_simp; try with_reducible rfl)
                   simp only [Act.put, List.getElem_toArray, List.getElem_cons_zero, List.getElem_cons_succ, List.setIfInBounds_toArray, List.set_cons_zero, List.set_cons_succ]
                   refine wpAnyH_take (i := 52) (v := ?_) rfl (by kernel_rfl) (by kernel_rfl) (by kernel_rfl) (fun _ _ _ h => h) (Or.inl ⟨by rfl, ?_⟩) hHeld202 ?_
                   rotate_left
                   · (intro wa hSw; go_simp; try with_reducible rfl)
                   simp only [Act.put, List.getElem_toArray, List.getElem_cons_zero, List.getElem_cons_succ, List.setIfInBounds_toArray, List.set_cons_zero, List.set_cons_succ]
                   refine wpAnyH_take (i := 53) (v := ?_) rfl (by kernel_rfl) (by kernel_rfl) (by kernel_rfl) (fun _ _ _ h => h) (Or.inl ⟨by rfl, ?_⟩) hHeld202 ?_
                   rotate_left
                   · (intro wa hSw; go_simp; try with_reducible rfl)
                   simp only [Act.put, List.getElem_toArray, List.getElem_cons_zero, List.getElem_cons_succ, List.setIfInBounds_toArray, List.set_cons_zero, List.set_cons_succ]
                   refine wpAnyH_take (i := 54) (v := ?_) rfl (by kernel_rfl) (by kernel_rfl) (by kernel_rfl) (fun _ _ _ h => h) (Or.inl ⟨by rfl, ?_⟩) hHeld202 ?_
                   rotate_left
                   · (intro wa hSw; go_simp; try with_reducible rfl)
                   simp only [Act.put, List.getElem_toArray, List.getElem_cons_zero, List.getElem_cons_succ, List.setIfInBounds_toArray, List.set_cons_zero, List.set_cons_succ]
                   refine wpAnyH_take (i := 55) (v := ?_) rfl (by kernel_rfl) (by kernel_rfl) (by kernel_rfl) (fun _ _ _ h => h) (Or.inl ⟨by rfl, ?_⟩) hHeld202 ?_
                   rotate_left
                   · (intro wa hSw; have K := OS.out _ hSw; have q0 := (HC.out.below K).2 1 _ rfl; go_simp; try with_reducible rfl)
                   simp only [Act.put, List.getElem_toArray, List.getElem_cons_zero, List.getElem_cons_succ, List.setIfInBounds_toArray, List.set_cons_zero, List.set_cons_succ]
                   as_aux_lemma =>
                    refine wpAnyH_take (i := 56) (v := ?_) rfl (by kernel_rfl) (by kernel_rfl) (by kernel_rfl) (fun _ _ _ h => h) (Or.inl ⟨by rfl, ?_⟩) hHeld202 ?_
                    rotate_left
                    · (intro wa hSw; go_simp; try with_reducible rfl)
                    simp only [Act.put, List.getElem_toArray, List.getElem_cons_zero, List.getElem_cons_succ, List.setIfInBounds_toArray, List.set_cons_zero, List.set_cons_succ]
                    refine wpAnyH_take (i := 57) (v := ?_) rfl (by kernel_rfl) (by kernel_rfl) (by kernel_rfl) (fun _ _ _ h => h) (Or.inl ⟨by rfl, ?_⟩) hHeld202 ?_
                    rotate_left
                    · (intro wa hSw; go_simp; try with_reducible rfl)
                    simp only [Act.put, List.getElem_toArray, List.getElem_cons_zero, List.getElem_cons_succ, List.setIfInBounds_toArray, List.set_cons_zero, List.set_cons_succ]
                    refine wpAnyH_take (i := 58) (v := ?_) rfl (by kernel_rfl) (by kernel_rfl) (by kernel_rfl) (fun _ _ _ h => h) (Or.inl ⟨by rfl, ?_⟩) hHeld202 ?_
                    rotate_left
                    · (intro wa hSw; go_simp; try with_reducible rfl)
                    simp only [Act.put, List.getElem_toArray, List.getElem_cons_zero, List.getElem_cons_succ, List.setIfInBounds_toArray, List.set_cons_zero, List.set_cons_succ]
                    refine wpAnyH_take (i := 59) (v := ?_) rfl (by kernel_rfl) (by kernel_rfl) (by kernel_rfl) (fun _ _ _ h => h) (Or.inl ⟨by rfl, ?_⟩) hHeld202 ?_
                    rotate_left
                    · (intro wa hSw; have K := OS.out _ hSw; have q0 := ((K).cell (p := ⟨ob, oo + k, none⟩) HQK.out.2).trans HQK.out.1; go_simp; try with_reducible rfl)
                    simp only [Act.put, List.getElem_toArray, List.getElem_cons_zero, List.getElem_cons_succ, List.setIfInBounds_toArray, List.set_cons_zero, List.set_cons_succ]
                    refine wpAnyH_ready (rs := [60]) (by kernel_rfl) (by simp) ?_
                    refine AllReadyH.cons (o := _) rfl (fun K hK => ?_) AllReadyH.nil
                    go_simp
                    have KK := OS.out _ hHeld202
                    refine (CHs.out _ _ _ v _ T6.out (GR2.out.below KK (Nat.le_refl _))).mono ?_
                    rintro e w203 ⟨rfl, b203⟩
                    clear KK
                    (try go_wp2_with fail)
                    refine hK.out _ _ ?_ (fun hHeld203 => ?_)
                    · exact KS.out _ _ hHeld202 b203
                    clear hK K
                    clear hHeld202
                    refine wpAnyH_take (i := 61) (v := ?_) rfl (by kernel_rfl) (by kernel_rfl) (by kernel_rfl) (fun _ _ _ h => h) (Or.inl ⟨by rfl, ?_⟩) hHeld203 ?_
                    rotate_left
                    · (intro wa hSw; go_simp; try with_reducible rfl)
                    simp only [Act.put, List.getElem_toArray, List.getElem_cons_zero, List.getElem_cons_succ, List.setIfInBounds_toArray, List.set_cons_zero, List.set_cons_succ]
                    refine wpAnyH_take (i := 62) (v := ?_) rfl (by kernel_rfl) (by kernel_rfl) (by kernel_rfl) (fun _ _ _ h => h) (Or.inl ⟨by rfl, ?_⟩) hHeld203 ?_
                    rotate_left
                    · (intro wa hSw; go_simp; try with_reducible rfl)
                    simp only [Act.put, List.getElem_toArray, List.getElem_cons_zero, List.getElem_cons_succ, List.setIfInBounds_toArray, List.set_cons_zero, List.set_cons_succ]
                    refine wpAnyH_take (i := 63) (v := ?_) rfl (by kernel_rfl) (by kernel_rfl) (by kernel_rfl) (fun _ _ _ h => h) (Or.inl ⟨by rfl, ?_⟩) hHeld203 ?_
                    rotate_left
                    · (intro wa hSw; go_simp; try with_reducible rfl)
                    simp only [Act.put, List.getElem_toArray, List.getElem_cons_zero, List.getElem_cons_succ, List.setIfInBounds_toArray, List.set_cons_zero, List.set_cons_succ]
                    refine wpAnyH_take (i := 64) (v := ?_) rfl (by kernel_rfl) (by kernel_rfl) (by kernel_rfl) (fun _ _ _ h => h) (Or.inl ⟨by rfl, ?_⟩) hHeld203 ?_
                    rotate_left
                    · (intro wa hSw; have K := OS.out _ hSw; have d0 := (HKB.out.next K).cells.1; obtain ⟨d0, d1, d2, d3, d4, d5, d6, d7, d8⟩ := (HKB.out.next K).cells; go_simp; try with_reducible rfl)
                    simp only [Act.put, List.getElem_toArray, List.getElem_cons_zero, List.getElem_cons_succ, List.setIfInBounds_toArray, List.set_cons_zero, List.set_cons_succ]
                    refine wpAnyH_take (i := 65) (v := ?_) rfl (by kernel_rfl) (by kernel_rfl) (by kernel_rfl) (fun _ _ _ h => h) (Or.inl ⟨by rfl, ?_⟩) hHeld203 ?_
                    rotate_left
                    · (intro wa hSw; go_simp; try with_reducible rfl)
                    simp only [Act.put, List.getElem_toArray, List.getElem_cons_zero, List.getElem_cons_succ, List.setIfInBounds_toArray, List.set_cons_zero, List.set_cons_succ]
                    refine wpAnyH_take (i := 66) (v := ?_) rfl (by kernel_rfl) (by kernel_rfl) (by kernel_rfl) (fun _ _ _ h => h) (Or.inl ⟨by rfl, ?_⟩) hHeld203 ?_
                    rotate_left
                    · (intro wa hSw; go_simp; try with_reducible rfl)
                    simp only [Act.put, List.getElem_toArray, List.getElem_cons_zero, List.getElem_cons_succ, List.setIfInBounds_toArray, List.set_cons_zero, List.set_cons_succ]
                    refine wpAnyH_take (i := 67) (v := ?_) rfl (by kernel_rfl) (by kernel_rfl) (by kernel_rfl) (fun _ _ _ h => h) (Or.inl ⟨by rfl, ?_⟩) hHeld203 ?_
                    rotate_left
                    · (intro wa hSw; go_simp; try with_reducible rfl)
                    simp only [Act.put, List.getElem_toArray, List.getElem_cons_zero, List.getElem_cons_succ, List.setIfInBounds_toArray, List.set_cons_zero, List.set_cons_succ]
                    refine wpAnyH_take (i := 68) (v := ?_) rfl (by kernel_rfl) (by kernel_rfl) (by kernel_rfl) (fun _ _ _ h => h) (Or.inl ⟨by rfl, ?_⟩) hHeld203 ?_
                    rotate_left
                    · (intro wa hSw; have K := OS.out _ hSw; have q0 := ((K).cell (p := ⟨ob, oo + i, none⟩) HQI.out.2).trans HQI.out.1; go_simp; try with_reducible rfl)
                    simp only [Act.put, List.getElem_toArray, List.getElem_cons_zero, List.getElem_cons_succ, List.setIfInBounds_toArray, List.set_cons_zero, List.set_cons_succ]
                    refine wpAnyH_take (i := 69) (v := ?_) rfl (by kernel_rfl) (by kernel_rfl) (by kernel_rfl) (fun _ _ _ h => h) (Or.inl ⟨by rfl, ?_⟩) hHeld203 ?_
                    rotate_left
                    · (intro wa hSw; go_simp; try with_reducible rfl)
                    simp only [Act.put, List.getElem_toArray, List.getElem_cons_zero, List.getElem_cons_succ, List.setIfInBounds_toArray, List.set_cons_zero, List.set_cons_succ]
                    as_aux_lemma =>
                     refine wpAnyH_take (i := 70) (v := ?_) rfl (by kernel_rfl) (by kernel_rfl) (by kernel_rfl) (fun _ _ _ h => h) (Or.inl ⟨by rfl, ?_⟩) hHeld203 ?_
                     rotate_left
                     · (intro wa hSw; go_simp; try with_reducible rfl)
                     simp only [Act.put, List.getElem_toArray, List.getElem_cons_zero, List.getElem_cons_succ, List.setIfInBounds_toArray, List.set_cons_zero, List.set_cons_succ]
                     refine wpAnyH_take (i := 71) (v := ?_) rfl (by kernel_rfl) (by kernel_rfl) (by kernel_rfl) (fun _ _ _ h => h) (Or.inl ⟨by rfl, ?_⟩) hHeld203 ?_
                     rotate_left
                     · (intro wa hSw; go_simp; try with_reducible rfl)
                     simp only [Act.put, List.getElem_toArray, List.getElem_cons_zero, List.getElem_cons_succ, List.setIfInBounds_toArray, List.set_cons_zero, List.set_cons_succ]
                     refine wpAnyH_take (i := 72) (v := ?_) rfl (by kernel_rfl) (by kernel_rfl) (by kernel_rfl) (fun _ _ _ h => h) (Or.inl ⟨by rfl, ?_⟩) hHeld203 ?_
                     rotate_left
                     · (intro wa hSw; have K := OS.out _ hSw; have q0 := ((K).cell (p := ⟨ob, oo + k, none⟩) HQK.out.2).trans HQK.out.1; go_simp; try with_reducible rfl)
                     simp only [Act.put, List.getElem_toArray, List.getElem_cons_zero, List.getElem_cons_succ, List.setIfInBounds_toArray, List.set_cons_zero, List.set_cons_succ]
                     refine wpAnyH_ready (rs := [73]) (by kernel_rfl) (by simp) ?_
                     refine AllReadyH.cons (o := _) rfl (fun K hK => ?_) AllReadyH.nil
                     go_simp
                     have KK := OS.out _ hHeld203
                     refine (CSa.out u v _ true _ T13.out T1.out (decide_eq_true HLT.out) (HKB.out.next KK).row).mono ?_
                     rintro e w204 ⟨rfl, b204⟩
                     clear KK
                     (try go_wp2_with fail)
                     refine hK.out _ _ ?_ (fun hHeld204 => ?_)
                     · exact KS.out _ _ hHeld203 b204
                     clear hK K
                     clear hHeld203
                     refine wpAnyH_take (i := 74) (v := ?_) rfl (by kernel_rfl) (by kernel_rfl) (by kernel_rfl) (fun _ _ _ h => h) (Or.inl ⟨by rfl, ?_⟩) hHeld204 ?_
                     rotate_left
                     · (intro wa hSw; go_simp; try with_reducible rfl)
                     simp only [Act.put, List.getElem_toArray, List.getElem_cons_zero, List.getElem_cons_succ, List.setIfInBounds_toArray, List.set_cons_zero, List.set_cons_succ]
                     refine wpAnyH_take (i := 75) (v := ?_) rfl (by kernel_rfl) (by kernel_rfl) (by kernel_rfl) (fun _ _ _ h => h) (Or.inl ⟨by rfl, ?_⟩) hHeld204 ?_
                     rotate_left
                     · (intro wa hSw; go_simp; try with_reducible rfl)
                     simp only [Act.put, List.getElem_toArray, List.getElem_cons_zero, List.getElem_cons_succ, List.setIfInBounds_toArray, List.set_cons_zero, List.set_cons_succ]
                     refine wpAnyH_take (i := 76) (v := ?_) rfl (by kernel_rfl) (by kernel_rfl) (by kernel_rfl) (fun _ _ _ h => h) (Or.inl ⟨by rfl, ?_⟩) hHeld204 ?_
                     rotate_left
                     · (intro wa hSw; go_simp; try with_reducible rfl)
                     simp only [Act.put, List.getElem_toArray, List.getElem_cons_zero, List.getElem_cons_succ, List.setIfInBounds_toArray, List.set_cons_zero, List.set_cons_succ]
                     refine wpAnyH_take (i := 77) (v := ?_) rfl (by kernel_rfl) (by kernel_rfl) (by kernel_rfl) (fun _ _ _ h => h) (Or.inl ⟨by rfl, ?_⟩) hHeld204 ?_
                     rotate_left
                     · (intro wa hSw; have K := OS.out _ hSw; have d0 := (HKB.out.next K).cells.1; obtain ⟨d0, d1, d2, d3, d4, d5, d6, d7, d8⟩ := (HKB.out.next K).cells; go_simp; try with_reducible rfl)
                     simp only [Act.put, List.getElem_toArray, List.getElem_cons_zero, List.getElem_cons_succ, List.setIfInBounds_toArray, List.set_cons_zero, List.set_cons_succ]
                     refine wpAnyH_take (i := 78) (v := ?_) rfl (by kernel_rfl) (by kernel_rfl) (by kernel_rfl) (fun _ _ _ h => h) (Or.inl ⟨by rfl, ?_⟩) hHeld204 ?_
                     rotate_left
                     · (intro wa hSw; go_simp; try with_reducible rfl)
                     simp only [Act.put, List.getElem_toArray, List.getElem_cons_zero, List.getElem_cons_succ, List.setIfInBounds_toArray, List.set_cons_zero, List.set_cons_succ]
                     refine wpAnyH_take (i := 79) (v := ?_) rfl (by kernel_rfl) (by kernel_rfl) (by kernel_rfl) (fun _ _ _ h => h) (Or.inl ⟨by rfl, ?_⟩) hHeld204 ?_
                     rotate_left
                     · (intro wa hSw; go_simp; try with_reducible rfl)
                     simp only [Act.put, List.getElem_toArray, List.getElem_cons_zero, List.getElem_cons_succ, List.setIfInBounds_toArray, List.set_cons_zero, List.set_cons_succ]
                     refine wpAnyH_take (i := 80) (v := ?_) rfl (by kernel_rfl) (by kernel_rfl) (by kernel_rfl) (fun _ _ _ h => h) (Or.inl ⟨by rfl, ?_⟩) hHeld204 ?_
                     rotate_left
                     · (intro wa hSw; go_simp; try with_reducible rfl)
                     simp only [Act.put, List.getElem_toArray, List.getElem_cons_zero, List.getElem_cons_succ, List.setIfInBounds_toArray, List.set_cons_zero, List.set_cons_succ]
                     refine wpAnyH_take (i := 81) (v := ?_) rfl (by kernel_rfl) (by kernel_rfl) (by kernel_rfl) (fun _ _ _ h => h) (Or.inl ⟨by rfl, ?_⟩) hHeld204 ?_
                     rotate_left
                     · (intro wa hSw; have K := OS.out _ hSw; have q0 := ((K).cell (p := ⟨ob, oo + k, none⟩) HQK.out.2).trans HQK.out.1; go_simp; try with_reducible rfl)
                     simp only [Act.put, List.getElem_toArray, List.getElem_cons_zero, List.getElem_cons_succ, List.setIfInBounds_toArray, List.set_cons_zero, List.set_cons_succ]
                     refine wpAnyH_take (i := 82) (v := ?_) rfl (by kernel_rfl) (by kernel_rfl) (by kernel_rfl) (fun _ _ _ h => h) (Or.inl ⟨by rfl, ?_⟩) hHeld204 ?_
                     rotate_left
                     · (intro wa hSw; go_simp; try with_reducible rfl)
                     simp only [Act.put, List.getElem_toArray, List.getElem_cons_zero, List.getElem_cons_succ, List.setIfInBounds_toArray, List.set_cons_zero, List.set_cons_succ]
                     refine wpAnyH_take (i := 83) (v := ?_) rfl (by kernel_rfl) (by kernel_rfl) (by kernel_rfl) (fun _ _ _ h => h) (Or.inl ⟨by rfl, ?_⟩) hHeld204 ?_
                     rotate_left
                     · (intro wa hSw; go_simp; try with_reducible rfl)
                     simp only [Act.put, List.getElem_toArray, List.getElem_cons_zero, List.getElem_cons_succ, List.setIfInBounds_toArray, List.set_cons_zero, List.set_cons_succ]
                     as_aux_lemma =>
                      refine wpAnyH_take (i := 84) (v := ?_) rfl (by kernel_rfl) (by kernel_rfl) (by kernel_rfl) (fun _ _ _ h => h) (Or.inl ⟨by rfl, ?_⟩) hHeld204 ?_
                      rotate_left
                      · (intro wa hSw; go_simp; try with_reducible rfl)
                      simp only [Act.put, List.getElem_toArray, List.getElem_cons_zero, List.getElem_cons_succ, List.setIfInBounds_toArray, List.set_cons_zero, List.set_cons_succ]
                      refine wpAnyH_take (i := 85) (v := ?_) rfl (by kernel_rfl) (by kernel_rfl) (by kernel_rfl) (fun _ _ _ h => h) (Or.inl ⟨by rfl, ?_⟩) hHeld204 ?_
                      rotate_left
                      · (intro wa hSw; have K := OS.out _ hSw; have q0 := ((K).cell (p := ⟨ob, oo + i, none⟩) HQI.out.2).trans HQI.out.1; go_simp; try with_reducible rfl)
                      simp only [Act.put, List.getElem_toArray, List.getElem_cons_zero, List.getElem_cons_succ, List.setIfInBounds_toArray, List.set_cons_zero, List.set_cons_succ]
                      refine wpAnyH_ready (rs := [86]) (by kernel_rfl) (by simp) ?_
                      refine AllReadyH.cons (o := _) rfl (fun K hK => ?_) AllReadyH.nil
                      go_simp
                      have KK := OS.out _ hHeld204
                      refine (CSa.out v u _ false _ T14.out T2.out (decide_eq_false (by show ¬ fi < ot; have := HLT.out; omega)) (HKB.out.next KK).row).mono ?_
                      rintro e w205 ⟨rfl, b205⟩
                      clear KK
                      (try go_wp2_with fail)
                      refine hK.out _ _ ?_ (fun hHeld205 => ?_)
                      · exact KS.out _ _ hHeld204 b205
                      clear hK K
                      clear hHeld204
                      refine wpAnyH_take (i := 87) (v := ?_) rfl (by kernel_rfl) (by kernel_rfl) (by kernel_rfl) (fun _ _ _ h => h) (Or.inl ⟨by rfl, ?_⟩) hHeld205 ?_
                      rotate_left
                      · (intro wa hSw; go_simp; try with_reducible rfl)
                      simp only [Act.put, List.getElem_toArray, List.getElem_cons_zero, List.getElem_cons_succ, List.setIfInBounds_toArray, List.set_cons_zero, List.set_cons_succ]
                      refine wpAnyH_done (by kernel_rfl) ?_ _
                      have KE := Lib.hid (OS.out _ hHeld205)
                      clear KS OS IS hHeld hHeld205
                      have HE := Lib.hid KE.out
                      clear KE
                      go_wp2_with fail
                      go_meet
                      case rel => exact ⟨rfl, HE⟩
              case rest =>
              obtain ⟨rfl, HE⟩ := hcut
              go_upto_region 17 with fail
              have HKB2 := Lib.hid (HKB.out.next HE.out)
              have OR5 := Lib.hid (OR4.out.below HE.out (Nat.le_refl _))
              have GR3 := Lib.hid (GR2.out.below HE.out (Nat.le_refl _))
              have HC2 := Lib.hid (HC.out.below HE.out)
              have HQI2 := Lib.hid (And.intro ((HE.out.cell (p := ⟨ob, oo + i, none⟩) HQI.out.2).trans HQI.out.1) (Nat.lt_of_lt_of_le HQI.out.2 HE.out.size))
              have HQK2 := Lib.hid (And.intro ((HE.out.cell (p := ⟨ob, oo + k, none⟩) HQK.out.2).trans HQK.out.1) (Nat.lt_of_lt_of_le HQK.out.2 HE.out.size))
              clear HKB OR4 GR2 HC HQI HQK HE HD
              have HKB := HKB2
              have HQI := HQI2
              have HQK := HQK2
              have HC := HC2
              clear HKB2 HQI2 HQK2 HC2
              go_cut [191] (fun s wx => s = .bool false ∧ Hid (Below wc.heap.size wc wx))
              case first =>
               as_aux_lemma =>
                obtain ⟨S, HSd⟩ : ∃ S : World → Prop, S = fun w' => Below wc.heap.size wc w' := ⟨_, rfl⟩
                have KS : Hid (∀ wa wb, S wa → Below wa.heap.size wa wb → S wb) := by subst HSd; exact fun wa wb h bb => h.trans (bb.mono h.size)
                have OS : Hid (∀ wa, S wa → Below wc.heap.size wc wa) := by subst HSd; exact fun wa h => h
                have IS : Hid (∀ wa, Below wc.heap.size wc wa → S wa) := by subst HSd; exact fun wa h => h
                clear HSd
                go_wp2_with fail
                refine wp_region_held_drew (S := S) (by kernel_rfl) ?_ (fun hHeld => ?_)
                · exact IS.out _ ((Below.refl _ _).drew)
                refine wpAnyH_take (i := 0) (v := ?_) rfl (by kernel_rfl) (by kernel_rfl) (by kernel_rfl) (fun _ _ _ h => h) (Or.inl ⟨by rfl, ?_⟩) hHeld ?_
                rotate_left
                · (intro wa hSw; have K := OS.out _ hSw; have d0 := (HKB.out.next K).cells.1; obtain ⟨d0, d1, d2, d3, d4, d5, d6, d7, d8⟩ := (HKB.out.next K).cells; go_simp; try with_reducible rfl)
                simp only [Act.put, List.getElem_toArray, List.getElem_cons_zero, List.setIfInBounds_toArray, List.set_cons_zero, List.set_cons_succ]
                refine wpAnyH_take (i := 1) (v := ?_) rfl (by kernel_rfl) (by kernel_rfl) (by kernel_rfl) (fun _ _ _ h => h) (Or.inl ⟨by rfl, ?_⟩) hHeld ?_
                rotate_left
                · (intro wa hSw; go_simp; try with_reducible rfl)
                simp only [Act.put, List.getElem_toArray, List.getElem_cons_zero, List.getElem_cons_succ, List.setIfInBounds_toArray, List.set_cons_zero, List.set_cons_succ]
                refine wpAnyH_take (i := 2) (v := ?_) rfl (by kernel_rfl) (by kernel_rfl) (by kernel_rfl) (fun _ _ _ h => h) (Or.inl ⟨by rfl, ?_⟩) hHeld ?_
                rotate_left
                · (intro wa hSw; have K := OS.out _ hSw; have q0 := (HC.out.below K).2 0 _ rfl; go_simp; try with_reducible rfl)
                simp only [Act.put, List.getElem_toArray, List.getElem_cons_zero, List.getElem_cons_succ, List.setIfInBounds_toArray, List.set_cons_zero, List.set_cons_succ]
                refine wpAnyH_take (i := 3) (v := ?_) rfl (by kernel_rfl) (by kernel_rfl) (by kernel_rfl) (fun _ _ _ h => h) (Or.inl ⟨by rfl, ?_⟩) hHeld ?_
                rotate_left
                · (intro wa hSw; go_simp; try with_reducible rfl)
                simp only [Act.put, List.getElem_toArray, List.getElem_cons_zero, List.getElem_cons_succ, List.setIfInBounds_toArray, List.set_cons_zero, List.set_cons_succ]
                refine wpAnyH_take (i := 4) (v := ?_) rfl (by kernel_rfl) (by kernel_rfl) (by kernel_rfl) (fun _ _ _ h => h) (Or.inl ⟨by rfl, ?_⟩) hHeld ?_
                rotate_left
                · (intro wa hSw; go_simp; try with_reducible rfl)
                simp only [Act.put, List.getElem_toArray, List.getElem_cons_zero, List.getElem_cons_succ, List.setIfInBounds_toArray, List.set_cons_zero, List.set_cons_succ]
                refine wpAnyH_take (i := 5) (v := ?_) rfl (by kernel_rfl) (by kernel_rfl) (by kernel_rfl) (fun _ _ _ h => h) (Or.inl ⟨by rfl, ?_⟩) hHeld ?_
                rotate_left
                · (intro wa hSw; go_simp; try with_reducible rfl)
                simp only [Act.put, List.getElem_toArray, List.getElem_cons_zero, List.getElem_cons_succ, List.setIfInBounds_toArray, List.set_cons_zero, List.set_cons_succ]
                refine wpAnyH_take (i := 6) (v := ?_) rfl (by kernel_rfl) (by kernel_rfl) (by kernel_rfl) (fun _ _ _ h => h) (Or.inl ⟨by rfl, ?_⟩) hHeld ?_
                rotate_left
                · (intro wa hSw; have K := OS.out _ hSw; have q0 := ((K).cell (p := ⟨ob, oo + i, none⟩) HQI.out.2).trans HQI.out.1; go_simp; try with_reducible rfl)
                simp only [Act.put, List.getElem_toArray, List.getElem_cons_zero, List.getElem_cons_succ, List.setIfInBounds_toArray, List.set_cons_zero, List.set_cons_succ]
                refine wpAnyH_take (i := 7) (v := ?_) rfl (by kernel_rfl) (by kernel_rfl) (by kernel_rfl) (fun _ _ _ h => h) (Or.inl ⟨by rfl, ?_⟩) hHeld ?_
                rotate_left
                · (intro wa hSw; go_simp; try with_reducible rfl)
                simp only [Act.put, List.getElem_toArray, List.getElem_cons_zero, List.getElem_cons_succ, List.setIfInBounds_toArray, List.set_cons_zero, List.set_cons_succ]
                refine wpAnyH_take (i := 8) (v := ?_) rfl (by kernel_rfl) (by kernel_rfl) (by kernel_rfl) (fun _ _ _ h => h) (Or.inl ⟨by rfl, ?_⟩) hHeld ?_
                rotate_left
                · (intro wa hSw; have K := OS.out _ hSw; have q0 := (HC.out.below K).2 1 _ rfl; go_simp; try with_reducible rfl)
                simp only [Act.put, List.getElem_toArray, List.getElem_cons_zero, List.getElem_cons_succ, List.setIfInBounds_toArray, List.set_cons_zero, List.set_cons_succ]
                refine wpAnyH_take (i := 10) (v := ?_) rfl (by kernel_rfl) (by kernel_rfl) (by kernel_rfl) (fun _ _ _ h => h) (Or.inl ⟨by rfl, ?_⟩) hHeld ?_
                rotate_left
                · (intro wa hSw; go_simp; try with_reducible rfl)
                simp only [Act.put, List.getElem_toArray, List.getElem_cons_zero, List.getElem_cons_succ, List.setIfInBounds_toArray, List.set_cons_zero, List.set_cons_succ]
                refine wpAnyH_take (i := 11) (v := ?_) rfl (by kernel_rfl) (by kernel_rfl) (by kernel_rfl) (fun _ _ _ h => h) (Or.inl ⟨by rfl, ?_⟩) hHeld ?_
                rotate_left
                · (intro wa hSw; have K := OS.out _ hSw; have q0 := (HC.out.below K).2 2 _ rfl; go_simp; try with_reducible rfl)
                simp only [Act.put, List.getElem_toArray, List.getElem_cons_zero, List.getElem_cons_succ, List.setIfInBounds_toArray, List.set_cons_zero, List.set_cons_succ]
                refine wpAnyH_ready (rs := [9]) (by kernel_rfl) (by simp) ?_
                refine AllReadyH.cons (o := _) rfl (fun K hK => ?_) AllReadyH.nil
                go_simp
                have KK := OS.out _ hHeld
                refine (CKv.out ky u fi _ n _ _ HKU.out T7.out (HKB.out.next KK).row (GR3.out.below KK (Nat.le_refl _))).mono ?_
                rintro e w301 ⟨rfl, b301⟩
                clear KK
                (try go_wp2_with fail)
                refine hK.out _ _ ?_ (fun hHeld301 => ?_)
                · exact KS.out _ _ hHeld b301
                clear hK K
                refine wpAnyH_take (i := 12) (v := ?_) rfl (by kernel_rfl) (by kernel_rfl) (by kernel_rfl) (fun _ _ _ h => h) (Or.inl ⟨by rfl, ?_⟩) hHeld301 ?_
                rotate_left
                · (intro wa hSw; go_simp; try with_reducible rfl)
                simp only [Act.put, List.getElem_toArray, List.getElem_cons_zero, List.getElem_cons_succ, List.setIfInBounds_toArray, List.set_cons_zero, List.set_cons_succ]
                refine wpAnyH_take (i := 13) (v := ?_) rfl (by kernel_rfl) (by kernel_rfl) (by kernel_rfl) (fun _ _ _ h => h) (Or.inl ⟨by rfl, ?_⟩) hHeld301 ?_
                rotate_left
                · (intro wa hSw; go_simp; try with_reducible rfl)
                simp only [Act.put, List.getElem_toArray, List.getElem_cons_zero, List.getElem_cons_succ, List.setIfInBounds_toArray, List.set_cons_zero, List.set_cons_succ]
                as_aux_lemma =>
                 refine wpAnyH_take (i := 14) (v := ?_) rfl (by kernel_rfl) (by kernel_rfl) (by kernel_rfl) (fun _ _ _ h => h) (Or.inl ⟨by rfl, ?_⟩) hHeld301 ?_
                 rotate_left
                 · (intro wa hSw; have K := OS.out _ hSw; have d0 := (HKB.out.next K).cells.1; obtain ⟨d0, d1, d2, d3, d4, d5, d6, d7, d8⟩ := (HKB.out.next K).cells; go_simp; try with_reducible rfl)
                 simp only [Act.put, List.getElem_toArray, List.getElem_cons_zero, List.getElem_cons_succ, List.setIfInBounds_toArray, List.set_cons_zero, List.set_cons_succ]
                 refine wpAnyH_take (i := 15) (v := ?_) rfl (by kernel_rfl) (by kernel_rfl) (by kernel_rfl) (fun _ _ _ h => h) (Or.inl ⟨by rfl, ?_⟩) hHeld301 ?_
                 rotate_left
                 · (intro wa hSw; go_simp; try with_reducible rfl)
                 simp only [Act.put, List.getElem_toArray, List.getElem_cons_zero, List.getElem_cons_succ, List.setIfInBounds_toArray, List.set_cons_zero, List.set_cons_succ]
                 refine wpAnyH_take (i := 16) (v := ?_) rfl (by kernel_rfl) (by kernel_rfl) (by kernel_rfl) (fun _ _ _ h => h) (Or.inl ⟨by rfl, ?_⟩) hHeld301 ?_
                 rotate_left
                 · (intro wa hSw; have K := OS.out _ hSw; have q0 := (HC.out.below K).2 0 _ rfl; go_simp; try with_reducible rfl)
                 simp only [Act.put, List.getElem_toArray, List.getElem_cons_zero, List.getElem_cons_succ, List.setIfInBounds_toArray, List.set_cons_zero, List.set_cons_succ]
                 refine wpAnyH_take (i := 17) (v := ?_) rfl (by kernel_rfl) (by kernel_rfl) (by kernel_rfl) (fun _ _ _ h => h) (Or.inl ⟨by rfl, ?_⟩) hHeld301 ?_
                 rotate_left
                 · (intro wa hSw; go_simp; try with_reducible rfl)
                 simp only [Act.put, List.getElem_toArray, List.getElem_cons_zero, List.getElem_cons_succ, List.setIfInBounds_toArray, List.set_cons_zero, List.set_cons_succ]
                 refine wpAnyH_take (i := 18) (v := ?_) rfl (by kernel_rfl) (by kernel_rfl) (by kernel_rfl) (fun _ _ _ h => h) (Or.inl ⟨by rfl, ?_⟩) hHeld301 ?_
                 rotate_left
                 · (intro wa hSw; go_simp; try with_reducible rfl)
                 simp only [Act.put, List.getElem_toArray, List.getElem_cons_zero, List.getElem_cons_succ, List.setIfInBounds_toArray, List.set_cons_zero, List.set_cons_succ]
                 refine wpAnyH_take (i := 19) (v := ?_) rfl (by kernel_rfl) (by kernel_rfl) (by kernel_rfl) (fun _ _ _ h => h) (Or.inl ⟨by rfl, ?_⟩) hHeld301 ?_
                 rotate_left
                 · (intro wa hSw; go_simp; try with_reducible rfl)
                 simp only [Act.put, List.getElem_toArray, List.getElem_cons_zero, List.getElem_cons_succ, List.setIfInBounds_toArray, List.set_cons_zero, List.set_cons_succ]
                 refine wpAnyH_take (i := 20) (v := ?_) rfl (by kernel_rfl) (by kernel_rfl) (by kernel_rfl) (fun _ _ _ h => h) (Or.inl ⟨by rfl, ?_⟩) hHeld301 ?_
                 rotate_left
                 · (intro wa hSw; have K := OS.out _ hSw; have q0 := ((K).cell (p := ⟨ob, oo + k, none⟩) HQK.out.2).trans HQK.out.1; go_simp; try with_reducible rfl)
                 simp only [Act.put, List.getElem_toArray, List.getElem_cons_zero, List.getElem_cons_succ, List.setIfInBounds_toArray, List.set_cons_zero, List.set_cons_succ]
                 refine wpAnyH_take (i := 21) (v := ?_) rfl (by kernel_rfl) (by kernel_rfl) (by kernel_rfl) (fun _ _ _ h => h) (Or.inl ⟨by rfl, ?_⟩) hHeld301 ?_
                 rotate_left
                 · (intro wa hSw; go_simp; try with_reducible rfl)
                 simp only [Act.put, List.getElem_toArray, List.getElem_cons_zero, List.getElem_cons_succ, List.setIfInBounds_toArray, List.set_cons_zero, List.set_cons_succ]
                 refine wpAnyH_take (i := 22) (v := ?_) rfl (by kernel_rfl) (by kernel_rfl) (by kernel_rfl) (fun _ _ _ h => h) (Or.inl ⟨by rfl, ?_⟩) hHeld301 ?_
                 rotate_left
                 · (intro wa hSw; have K := OS.out _ hSw; have q0 := (HC.out.below K).2 1 _ rfl; go_simp; try with_reducible rfl)
                 simp only [Act.put, List.getElem_toArray, List.getElem_cons_zero, List.getElem_cons_succ, List.setIfInBounds_toArray, List.set_cons_zero, List.set_cons_succ]
                 refine wpAnyH_take (i := 24) (v := ?_) rfl (by kernel_rfl) (by kernel_rfl) (by kernel_rfl) (fun _ _ _ h => h) (Or.inl ⟨by rfl, ?_⟩) hHeld301 ?_
                 rotate_left
                 · (intro wa hSw; go_simp; try with_reducible rfl)
                 simp only [Act.put, List.getElem_toArray, List.getElem_cons_zero, List.getElem_cons_succ, List.setIfInBounds_toArray, List.set_cons_zero, List.set_cons_succ]
                 refine wpAnyH_take (i := 25) (v := ?_) rfl (by kernel_rfl) (by kernel_rfl) (by kernel_rfl) (fun _ _ _ h => h) (Or.inl ⟨by rfl, ?_⟩) hHeld301 ?_
                 rotate_left
                 · (intro wa hSw; have K := OS.out _ hSw; have q0 := (HC.out.below K).2 3 _ rfl; go_simp; try with_reducible rfl)
                 simp only [Act.put, List.getElem_toArray, List.getElem_cons_zero, List.getElem_cons_succ, List.setIfInBounds_toArray, List.set_cons_zero, List.set_cons_succ]
                 refine wpAnyH_ready (rs := [23]) (by kernel_rfl) (by simp) ?_
                 refine AllReadyH.cons (o := _) rfl (fun K hK => ?_) AllReadyH.nil
                 go_simp
                 have KK := OS.out _ hHeld301
                 refine (CKv.out ky v ot _ n _ _ HKW.out T8.out (HKB.out.next KK).row (GR3.out.below KK (Nat.le_refl _))).mono ?_
                 rintro e w302 ⟨rfl, b302⟩
                 clear KK
                 (try go_wp2_with fail)
                 refine hK.out _ _ ?_ (fun hHeld302 => ?_)
                 · exact KS.out _ _ hHeld301 b302
                 clear hK K
                 clear hHeld301
                 refine wpAnyH_take (i := 26) (v := ?_) rfl (by kernel_rfl) (by kernel_rfl) (by kernel_rfl) (fun _ _ _ h => h) (Or.inl ⟨by rfl, ?_⟩) hHeld302 ?_
                 rotate_left
                 · (intro wa hSw; go_simp; try with_reducible rfl)
                 simp only [Act.put, List.getElem_toArray, List.getElem_cons_zero, List.getElem_cons_succ, List.setIfInBounds_toArray, List.set_cons_zero, List.set_cons_succ]
                 refine wpAnyH_take (i := 27) (v := ?_) rfl (by kernel_rfl) (by kernel_rfl) (by kernel_rfl) (fun _ _ _ h => h) (Or.inl ⟨by rfl, ?_⟩) hHeld302 ?_
                 rotate_left
                 · (intro wa hSw; go_simp; try with_reducible rfl)
                 simp only [Act.put, List.getElem_toArray, List.getElem_cons_zero, List.getElem_cons_succ, List.setIfInBounds_toArray, List.set_cons_zero, List.set_cons_succ]
                 as_aux_lemma =>
                  refine wpAnyH_take (i := 28) (v := ?_) rfl (by kernel_rfl) (by kernel_rfl) (by kernel_rfl) (fun _ _ _ h => h) (Or.inl ⟨by rfl, ?_⟩) hHeld302 ?_
                  rotate_left
                  · (intro wa hSw; go_simp; try with_reducible rfl)
                  simp only [Act.put, List.getElem_toArray, List.getElem_cons_zero, List.getElem_cons_succ, List.setIfInBounds_toArray, List.set_cons_zero, List.set_cons_succ]
                  refine wpAnyH_take (i := 29) (v := ?_) rfl (by kernel_rfl) (by kernel_rfl) (by kernel_rfl) (fun _ _ _ h => h) (Or.inl ⟨by rfl, ?_⟩) hHeld302 ?_
                  rotate_left
                  · (intro wa hSw; have K := OS.out _ hSw; have d0 := (HKB.out.next K).cells.1; obtain ⟨d0, d1, d2, d3, d4, d5, d6, d7, d8⟩ := (HKB.out.next K).cells; go_simp; try with_reducible rfl)
                  simp only [Act.put, List.getElem_toArray, List.getElem_cons_zero, List.getElem_cons_succ, List.setIfInBounds_toArray, List.set_cons_zero, List.set_cons_succ]
                  refine wpAnyH_take (i := 30) (v := ?_) rfl (by kernel_rfl) (by kernel_rfl) (by kernel_rfl) (fun _ _ _ h => h) (Or.inl ⟨by rfl, ?_⟩) hHeld302 ?_
                  rotate_left
                  · (intro wa hSw; have K := OS.out _ hSw; have c0 := (HC.out.below K).2 0 _ rfl; have c1 := (HC.out.below K).2 1 _ rfl; have c2 := (HC.out.below K).2 2 _ rfl; have c3 := (HC.out.below K).2 3 _ rfl; go_simp; try with_reducible rfl)
                  simp only [Act.put, List.getElem_toArray, List.getElem_cons_zero, List.getElem_cons_succ, List.setIfInBounds_toArray, List.set_cons_zero, List.set_cons_succ]
                  refine wpAnyH_ready (rs := [31]) (by kernel_rfl) (by simp) ?_
                  refine AllReadyH.cons (o := _) rfl (fun K hK => ?_) AllReadyH.nil
                  go_simp
                  have KK := OS.out _ hHeld302
                  refine (CRz.out _ (HKB.out.next KK).row (GR3.out.below KK (Nat.le_refl _)) (HKB.out.next KK).bel).mono ?_
                  rintro e w303 ⟨rfl, b303⟩
                  clear KK
                  (try go_wp2_with fail)
                  refine hK.out _ _ ?_ (fun hHeld303 => ?_)
                  · exact KS.out _ _ hHeld302 b303
                  clear hK K
                  clear hHeld302
                  refine wpAnyH_take (i := 32) (v := ?_) rfl (by kernel_rfl) (by kernel_rfl) (by kernel_rfl) (fun _ _ _ h => h) (Or.inl ⟨by rfl, ?_⟩) hHeld303 ?_
                  rotate_left
                  · (intro wa hSw; go_simp; try with_reducible rfl)
                  simp only [Act.put, List.getElem_toArray, List.getElem_cons_zero, List.getElem_cons_succ, List.setIfInBounds_toArray, List.set_cons_zero, List.set_cons_succ]
                  refine wpAnyH_take (i := 33) (v := ?_) rfl (by kernel_rfl) (by kernel_rfl) (by kernel_rfl) (fun _ _ _ h => h) (Or.inl ⟨by rfl, ?_⟩) hHeld303 ?_
                  rotate_left
                  · (intro wa hSw; go_simp; try with_reducible rfl)
                  simp only [Act.put, List.getElem_toArray, List.getElem_cons_zero, List.getElem_cons_succ, List.setIfInBounds_toArray, List.set_cons_zero, List.set_cons_succ]
                  refine wpAnyH_take (i := 34) (v := ?_) rfl (by kernel_rfl) (by kernel_rfl) (by kernel_rfl) (fun _ _ _ h => h) (Or.inl ⟨by rfl, ?_⟩) hHeld303 ?_
                  rotate_left
                  · (intro wa hSw; go_simp; try with_reducible rfl)
                  simp only [Act.put, List.getElem_toArray, List.getElem_cons_zero, List.getElem_cons_succ, List.setIfInBounds_toArray, List.set_cons_zero, List.set_cons_succ]
                  refine wpAnyH_take (i := 35) (v := ?_) rfl (by kernel_rfl) (by kernel_rfl) (by kernel_rfl) (fun _ _ _ h => h) (Or.inl ⟨by rfl, ?_⟩) hHeld303 ?_
                  rotate_left
                  · (intro wa hSw; have K := OS.out _ hSw; have c0 := (HC.out.below K).2 0 _ rfl; have c1 := (HC.out.below K).2 1 _ rfl; have c2 := (HC.out.below K).2 2 _ rfl; have c3 := (HC.out.below K).2 3 _ rfl; go_simp; try with_reducible rfl)
                  simp only [Act.put, List.getElem_toArray, List.getElem_cons_zero, List.getElem_cons_succ, List.setIfInBounds_toArray, List.set_cons_zero, List.set_cons_succ]
                  refine wpAnyH_take (i := 36) (v := ?_) rfl (by kernel_rfl) (by kernel_rfl) (by kernel_rfl) (fun _ _ _ h => h) (Or.inl ⟨by rfl, ?_⟩) hHeld303 ?_
                  rotate_left
                  · (intro wa hSw; have K := OS.out _ hSw; have c0 := (HC.out.below K).2 0 _ rfl; have c1 := (HC.out.below K).2 1 _ rfl; have c2 := (HC.out.below K).2 2 _ rfl; have c3 := (HC.out.below K).2 3 _ rfl; go_simp; try with_reducible rfl)
                  simp only [Act.put, List.getElem_toArray, List.getElem_cons_zero, List.getElem_cons_succ, List.setIfInBounds_toArray, List.set_cons_zero, List.set_cons_succ]
                  refine wpAnyH_ready (rs := [37]) (by kernel_rfl) (by simp) ?_
                  refine AllReadyH.cons (o := _) rfl (fun K hK => ?_) AllReadyH.nil
                  go_simp
                  have KK := OS.out _ hHeld303
                  refine (CSr.out ky fi ot _ n _ _ (GR3.out.below KK (Nat.le_refl _))).mono ?_
                  rintro e w304 ⟨rfl, b304⟩
                  clear KK
                  (try go_wp2_with fail)
                  refine hK.out _ _ ?_ (fun hHeld304 => ?_)
                  · exact KS.out _ _ hHeld303 b304
                  clear hK K
                  clear hHeld303
                  refine wpAnyH_take (i := 38) (v := ?_) rfl (by kernel_rfl) (by kernel_rfl) (by kernel_rfl) (fun _ _ _ h => h) (Or.inl ⟨by rfl, ?_⟩) hHeld304 ?_
                  rotate_left
                  · (intro wa hSw; go_simp; try with_reducible rfl)
                  simp only [Act.put, List.getElem_toArray, List.getElem_cons_zero, List.getElem_cons_succ, List.setIfInBounds_toArray, List.set_cons_zero, List.set_cons_succ]
                  refine wpAnyH_take (i := 39) (v := ?_) rfl (by kernel_rfl) (by kernel_rfl) (by kernel_rfl) (fun _ _ _ h => h) (Or.inl ⟨by rfl, ?_⟩) hHeld304 ?_
                  rotate_left
                  · (intro wa hSw; go_simp; try with_reducible rfl)
                  simp only [Act.put, List.getElem_toArray, List.getElem_cons_zero, List.getElem_cons_succ, List.setIfInBounds_toArray, List.set_cons_zero, List.set_cons_succ]
                  refine wpAnyH_done (by kernel_rfl) ?_ _
                  have KE := Lib.hid (OS.out _ hHeld304)
                  clear KS OS IS hHeld hHeld304
                  have HE := Lib.hid KE.out
                  clear KE
                  go_wp2_with fail
                  go_meet
                  case rel => exact ⟨rfl, HE⟩
              case rest =>
              obtain ⟨rfl, HE⟩ := hcut
              have HKE := Lib.hid (HKB.out.next HE.out)
              have ORE := Lib.hid (OR5.out.below HE.out (Nat.le_refl _))
              have s2 : IntKind.i64.wrap ((k : Int) + 1) = (k : Int) + 1 := IntWalk.i64_in _ (by omega)
              clear HKB OR5 GR3 HC HQI HQK HE CRz
              go_wp2
              go_roundw
              case rel => exact ⟨k + 1, by omega, by omega, by go_num, HKE, ORE⟩
              case measure => simp [RowKit.intOf]; omega
        · obtain rfl : b.nf = k := by omega
          go_wp2
          go_roundw
          case rel => exact ⟨i + 1, by omega, by go_num, K, ORr⟩
          case measure => simp [RowKit.intOf]; omega
    · obtain rfl : b.nf = i := by omega
      have HE := Lib.hid (B1.out.trans (KI.out.bel.mono B1.out.size))
      go_wp2
      go_ret
      exact ⟨rfl, HE.out⟩

end Go.Proofs.YteciobkjfmddcaaGreatDoor.fnReasons
