/-
  Packed: SplitImpl, RangeRel, SepIter.
-/
import Derived.RangeFuncNested
import Derived.RangeFuncBound
import Derived.RangeFuncCalls
import Derived.RangeFuncLeaves
import Derived.Shelf.Abstract
import Derived.Shelf.RegionOpen
import Derived.WalkKit
import Derived.OwnWalkIn
import Derived.TacticsInMore
import Derived.LoopNIn
import Derived.LoopIn
import Derived.Deep.RegionHeld3
import Derived.Test.YteciobkjfmddcaaGreatProg
import Derived.Test.YteciobkjfmddcaaGreatQ13
import Derived.Test.YteciobkjfmddcaaGreatQ15
set_option linter.unusedVariables false
namespace Go.Proofs.YteciobkjfmddcaaGreat
open Go.RowKit Go.Maps

def fit64 (x : Int) : Prop := -9223372036854775808 ≤ x ∧ x ≤ 9223372036854775807
theorem fit64_wrap (x : Int) : fit64 (wrap64 x) := by unfold fit64 wrap64; omega
def rowFit (r : RowD) : Prop := fit64 r.wins ∧ fit64 r.scored ∧ fit64 r.points
theorem rowFit_zero : rowFit zeroR := ⟨by unfold fit64 zeroR; simp, by unfold fit64 zeroR; simp, by unfold fit64 zeroR; simp⟩
theorem rowFit_add (a b : RowD) : rowFit (addW a b) := ⟨fit64_wrap _, fit64_wrap _, fit64_wrap _⟩
theorem rowFit_put {r : Nat → RowD} {x : RowD} {t : Nat} (h : ∀ i, rowFit (r i)) (hx : rowFit x) : ∀ i, rowFit (putR r t x i) := fun i => by
  unfold putR; split
  · exact hx
  · exact h i
theorem tabFit (win draw loss : Int) (sel : GameD → Bool) (g : Nat → GameD) : ∀ k i, rowFit (tabR win draw loss sel g k i)
  | 0, _ => rowFit_zero
  | k + 1, i => by
    have ih := tabFit win draw loss sel g k
    unfold tabR
    split
    · unfold addG
      split
      · exact rowFit_put (rowFit_put ih (rowFit_add _ _)) (rowFit_add _ _) i
      · exact ih i
    · exact ih i
theorem valFit (b : BookD) (key : Int) (gg : Nat → Int) (ng i : Nat) : fit64 (bookV b key gg ng i) := by
  have h := tabFit b.win b.draw b.loss (selG (!mutualB key) gg ng) b.g b.m i
  unfold bookV valD
  have h2 : rowFit (bookT b key gg ng i) := tabFit _ _ _ _ _ _ _
  repeat' split
  · exact fit64_wrap _
  · exact h2.2.2
  · exact fit64_wrap _
  · exact h2.2.1
  · exact h2.1
  · exact fit64_wrap _
  · exact fit64_wrap _
  · unfold fit64; omega
theorem zSliceV (w : World) : (zeroValue 24).run Tryz.prog w = .ok (.slice none 0 0) w := by kernel_rfl
theorem ll_of_groups {w6 w' : World} {D B m k : Nat} {T : List (Int × Value × List Int)} {ov : Value} (hG : GroupSt w6 B m k T) (hov : w'.ownsRow w6.heap.size 24 1 ov T.length ((T.take T.length).map fun x => x.2.1)) (hb : Below w6.heap.size w6 w') (hB : D ≤ B) (h6 : D ≤ w6.heap.size) : LL w' D ov (T.map Prod.snd) := by
  rw [List.take_length] at hov
  refine ⟨?_, fun y hy => ?_, ?_⟩
  · rw [List.length_map, List.map_map]
    exact owns_mono hov h6
  · obtain ⟨x, hx, rfl⟩ := List.mem_map.1 hy
    exact owns_mono (owns_below (hG.1 x hx) hb (Nat.le_refl _)) hB
  · rw [List.map_map]
    refine List.pairwise_cons.2 ⟨fun u hu => ?_, hG.2.1⟩
    obtain ⟨x, hx, rfl⟩ := List.mem_map.1 hu
    intro q hq e2
    have a1 := (hov.lt q hq).1
    have a2 := (hG.1.lt hx e2).2
    omega
theorem datT_snd (T : List (Int × Value × List Int)) : (T.map Prod.snd).map Prod.snd = (datT T).map Prod.snd := by unfold datT; simp [List.map_map, Function.comp_def]

set_option maxRecDepth 100000 in
set_option maxHeartbeats 4000000 in
theorem split_impl (fa : Option Addr) (fc : Nat) (la : Option Addr) (lc : Nat) (ga : Option Addr) (gc : Nat) (qa : Option Addr) (qc : Nat) (ta : Option Addr) (tc : Nat) (b : BookD) (ra : Option Addr) (rc : Nat) (key : Int) (gv : Value) (ng : Nat) (gg : Nat → Int) (w : World) (hp : bookP b) (h : BookRow w (.slice fa b.nf fc) (.slice la b.nl lc) (.slice ga b.m gc) (.slice qa b.nfa qc) (.slice ta b.nta tc) b) (ht : RowRow w (.slice ra b.nf rc) b.nf (tabAll b)) (hgv : IntRow w gv ng gg) (hteams : teamsP b.nf ng gg) (hn6 : ng ≤ 1048576) :
    Calls Tryz.prog 36 #[.agg #[.slice fa b.nf fc, .int .i64 b.win, .int .i64 b.draw, .int .i64 b.loss, .slice la b.nl lc, .bool b.again, .slice ga b.m gc, .slice qa b.nfa qc, .slice ta b.nta tc, .slice ra b.nf rc], .int .i64 key, gv] w (ListsL w ((splitP (bookV b key gg ng) gg ng).map Prod.snd)) := by
  obtain ⟨i0, hi, hz0, hz1, hz2⟩ := info_parts Tryz.infoI
  obtain ⟨i1, hi1, hy0, hy1, hy2⟩ := info_parts Tryz.infoL
  have hsix := h.sixty
  have K0 := Lib.hid (JgAt.made h ht 68)
  have HG := Lib.hid hgv
  have HTM := Lib.hid hteams
  obtain ⟨xa, xc, rfl, hx64, _⟩ := hgv.form
  have C1 := Lib.hid (fun wa h1 h2 h3 => valueBy_impl fa fc la lc ga gc qa qc ta tc b ra rc key (.slice xa ng xc) ng gg wa hp h1 h2 h3)
  have HF := Lib.hid (valFit b key gg ng)
  obtain ⟨V, hV⟩ : ∃ V, bookV b key gg ng = V := ⟨_, rfl⟩
  rw [hV] at C1 HF
  rw [hV]
  have hmm := @run_makeMap Tryz.prog
  clear h ht hgv hteams hV
  obtain ⟨d0, d1, d2, d3, d4, d5, d6, d7, d8, d9⟩ := K0.out.cells
  go_enter Tryz.func36, Tryz.ntmps36
  go_wp2_with fail
  refine (C1.out _ K0.out.row K0.out.tab (HG.out.below K0.out.bel (Nat.le_refl _))).mono ?_
  rintro e w4 ⟨fv, rfl, hfv, b4⟩
  have HB4 := Lib.hid (K0.out.bel.trans (b4.mono K0.out.bel.size))
  have HB4s := Lib.hid HB4.out.size
  obtain ⟨fN, bd, _, rfl, hen, hca⟩ := hfv
  have HEN := Lib.hid hen
  have HCA := Lib.hid hca
  clear d0 d1 d2 d3 d4 d5 d6 d7 d8 d9 b4 K0 hen hca C1
  go_wp2
  go_loopw [22] (fun i wr => ∃ (k : Nat) (T : List (Int × Value × List Int)), k ≤ ng ∧ i = .int .i64 k ∧ Hid (datT T = splitP V gg k) ∧ Hid (GroupSt wr (w4.heap.size + 1) w4.heap.size k T) ∧ Hid (Below w4.heap.size w4 wr)) (fun i _ => ng - (RowKit.intOf i).toNat)
  case atStart => exact ⟨0, [], Nat.zero_le _, rfl, rfl, GroupSt.made w4 0, (Below.refl _ _).alloc (Nat.le_refl _) _⟩
  case round =>
    obtain ⟨k, T, hk, rfl, HD, HGS, HB⟩ := hrel
    by_cases hlt : k < ng
    · have hIR := HG.out.below (HB4.out.trans (HB.out.mono HB4.out.size)) (Nat.le_refl _)
      obtain ⟨bo, off, rfl, hcap, c1⟩ := int_at hIR hlt
      obtain ⟨tn, htn⟩ : ∃ tn : Nat, gg k = (tn : Int) := ⟨(gg k).toNat, by have := HTM.out k hlt; omega⟩
      have htl : tn < b.nf := by have := HTM.out k hlt; omega
      rw [htn] at c1
      have hrun0 := HEN.out (bd.push (.int .i64 (tn : Int))) wr
      have hcl := HCA.out tn wr htl HB.out
      have HSP : Hid (splitP V gg (k + 1) = insP (V tn) tn (splitP V gg k)) := by show insP (V (gg k).toNat) (gg k) _ = _; rw [htn]; rfl
      have hft := HF.out tn
      obtain ⟨v, hv⟩ : ∃ v, V tn = v := ⟨_, rfl⟩
      rw [hv] at hcl HSP hft
      have HCL := Lib.hid hcl
      have HKY : Hid (keyOf Tryz.prog 3 (.int .i64 v) = some (.int .i64 v)) := keyOf_int_mk Tryz.underlying3 (WalkArith.wf_i64 (by unfold fit64 at hft; omega))
      clear hIR htn hv hcl hft htl
      go_wp2_with fail
      refine HCL.out.mono ?_
      rintro e w5 ⟨rfl, b5⟩
      have HGS5 := Lib.hid (HGS.out.below b5)
      have HB5 := Lib.hid (HB.out.trans (b5.mono HB.out.size))
      obtain ⟨iv, p, T', hst⟩ := StepT.ex HD.out HGS5.out.1 HGS5.out.2.1 v (tn : Int)
      have HST := Lib.hid hst
      have hlen := hst.len
      have hmlt := HGS5.out.2.2.1.lt
      have hBsz : w4.heap.size + 1 ≤ w5.heap.size := by omega
      have hrun := HGS5.out.2.2.1.run kInt Tryz.underlying110 (zSliceV w5) HKY.out
      rw [hst.look] at hrun
      clear hst b5 HGS HB HCL hrun0 c1
      go_wp2_with (first
        | (at_builtin; refine wpList_pushL rfl (.tmp 33) (.tmp 35) 24 rfl (w4.heap.size + 1) 3 Tryz.underlying24 hi hz0 hz1 hz2 rfl (by decide) [.int .i64 (tn : Int)] rfl (by intro u hu; simp at hu; subst hu; rfl) rfl (by first | rfl | (show Value.slice (some ⟨_, 0, none⟩) 1 1 = _; simp)) HST.out.own (by unfold maxLen; omega) (by omega) hBsz ?_; intro g6 c6 w6 o6 gr6 at6 lt6; have HM6 := Lib.hid (HGS5.out.kept HST.out.own gr6); have HO6 := Lib.hid o6; have HG6 := Lib.hid gr6; have HA6 := Lib.hid at6; clear o6 gr6 at6 hrun)
        | (at_mapUpdate; refine wpList_valPut rfl (.tmp 29) (.tmp 30) (.tmp 36) 110 rfl 3 24 kInt Tryz.underlying110 w4.heap.size k _ _ rfl HM6.out (by unfold maxLen; omega) _ _ (.int .i64 v) rfl rfl HKY.out trivial (HST.out.self _) (HST.out.other _) ?_; intro w7 m7 g7))
      have HGS7 := Lib.hid (GroupSt.step HGS5.out HST.out HG6.out HO6.out HA6.out g7 m7)
      have HB7 := Lib.hid ((HB5.out.grown HG6.out HB5.out.size (fun q hq => by have := (HST.out.own.lt q hq).1; omega)).grown g7 (Nat.le_trans HB5.out.size HG6.out.size) (fun q hq => by cases hq; exact Nat.le_refl _))
      clear g7 m7 HGS5 HB5 HO6 HG6 HA6 HM6
      go_roundw
      case rel => exact ⟨k + 1, _, by omega, by go_num, by show datT _ = _; rw [HSP.out, ← HD.out]; exact HST.out.dat _, HGS7, HB7⟩
      case measure => simp [RowKit.intOf]; omega
    · obtain rfl : ng = k := by omega
      have hlenT : T.length ≤ ng := by
        have h1 := split_len (V := V) (gg := gg) ng
        rw [← HD.out] at h1
        unfold datT at h1
        simpa using h1
      have HDS := Lib.hid (datT_desc HD.out)
      have HBA := Lib.hid (HB4.out.trans (HB.out.mono HB4.out.size))
      have HFT : Hid (∀ x ∈ T, fit64 x.1) := fun x hx => by
        have hxs : (x.1, x.2.2) ∈ splitP V gg ng := by rw [← HD.out]; exact List.mem_map.2 ⟨x, hx, rfl⟩
        have hne := splitP_ne (V := V) (gg := gg) ng _ hxs
        obtain ⟨u, hu⟩ := List.exists_mem_of_ne_nil _ hne
        have := splitP_val V gg ng _ hxs u hu
        rw [← this]; exact HF.out _
      have HMK : Hid (∀ s, (∃ u, findT T (.int .i64 s) = some u) ↔ s ∈ T.map Prod.fst) := fun s => by
        show (∃ u, findI T s = some u) ↔ _
        rw [List.mem_map]
        constructor
        · rintro ⟨u, hu⟩
          obtain ⟨x, hx, h1, _⟩ := (findI_iff HDS.out).1 hu
          exact ⟨x, hx, h1⟩
        · rintro ⟨x, hx, h1⟩
          exact ⟨_, (findI_iff HDS.out).2 ⟨x, hx, h1, rfl⟩⟩
      clear HEN HCA HG HTM
      go_wp2_with fail
      refine (keysI_impl (some w4.heap.size) wr).mono ?_
      rintro e w5 ⟨rfl, hw5⟩
      subst hw5
      go_wp2_with fail
      refine (sortedDesc_impl w4.heap.size ng (findT T) wr HGS.out.2.2.1 (fun _ _ => findT_key) hn6).mono ?_
      rintro e w6 ⟨v6, L, rfl, hL1, hL2, hO6, hL3, b6⟩
      obtain rfl : L = T.map Prod.fst := desc_unique _ _ hL1 (by rw [List.pairwise_map]; exact HDS.out) (fun s => by rw [hL2, HMK.out])
      rw [List.length_map] at hO6
      have HGS6 := Lib.hid ((HGS.out.below ((Below.refl _ _).alloc (Nat.le_refl _) _)).below b6)
      have HO6 := Lib.hid hO6
      have HB6 := Lib.hid (HBA.out.trans (((Below.refl wr.heap.size wr).alloc (Nat.le_refl _) _).mono HBA.out.size) |>.trans (b6.mono (by have := HBA.out.size; simp; omega)))
      obtain ⟨sa, sc, rfl⟩ : ∃ sa sc, v6 = .slice sa T.length sc := by
        obtain ⟨pa, pc, h6⟩ := owns_form hO6
        exact ⟨pa, pc, h6⟩
      clear hL1 hL2 hL3 hO6 b6 HGS HB HBA HB4
      go_wp2
      go_loopw [12, 42] (fun ov i w' => ∃ k : Nat, k ≤ T.length ∧ i = .int .i64 k ∧ Hid (w'.ownsRow w6.heap.size 24 1 ov k ((T.take k).map fun x => x.2.1)) ∧ Hid (Below w6.heap.size w6 w')) (fun _ i _ => T.length - (RowKit.intOf i).toNat)
      case atStart => exact ⟨0, Nat.zero_le _, rfl, World.ownsRow_nil _ _ _ _, Below.refl _ _⟩
      case round =>
        obtain ⟨k, hk2, rfl, HOV, HBW⟩ := hrel
        by_cases hlt2 : k < T.length
        · obtain ⟨x, hx⟩ : ∃ x, T[k]? = some x := ⟨_, List.getElem?_eq_getElem hlt2⟩
          have hxm : x ∈ T := List.mem_iff_getElem?.2 ⟨k, hx⟩
          obtain ⟨g8, c8, h8, hc8, _, e8⟩ := ints_at (owns_below HO6.out HBW.out (Nat.le_refl _)) (j := k) (x := x.1) (by rw [List.getElem?_map, hx]; rfl)
          simp only [Value.slice.injEq, true_and] at h8
          obtain ⟨rfl, rfl⟩ := h8
          have hfx := HFT.out x hxm
          have hrun := (HGS6.out.2.2.1.below HBW.out (Nat.le_refl _)).run kInt Tryz.underlying110 (zSliceV _) (key := .int .i64 x.1) (kl := .int .i64 x.1) (keyOf_int_mk Tryz.underlying3 (WalkArith.wf_i64 (by unfold fit64 at hfx; omega)))
          rw [show findT T (.int .i64 x.1) = some x.2.1 from (findI_iff HDS.out).2 ⟨x, hxm, rfl, rfl⟩] at hrun
          simp only [Option.getD_some] at hrun
          obtain ⟨ya, yc, hxv⟩ := owns_form (HGS6.out.1 x hxm)
          have HTK : Hid ((T.take (k + 1)).map (fun x => x.2.1) = (T.take k).map (fun x => x.2.1) ++ [x.2.1]) := by
            show _ = _
            rw [List.take_add_one, hx, List.map_append]
            rfl
          have hszw := HBW.out.size
          clear hfx hxm hx
          obtain ⟨xs1, hxs1⟩ : ∃ s, x.1 = s := ⟨_, rfl⟩
          obtain ⟨yn, hyn⟩ : ∃ s, x.2.2.length = s := ⟨_, rfl⟩
          rw [hyn] at hxv
          rw [hxs1] at e8 hrun
          rw [hxv] at hrun HTK
          clear hxs1 hxv hyn
          go_wp2_with (at_builtin; refine wpList_pushL rfl (.tmp 46) (.tmp 50) 32 rfl w6.heap.size 24 Tryz.underlying32 hi1 hy0 hy1 hy2 rfl (by decide) [.slice ya yn yc] rfl (by intro u hu; simp at hu; subst hu; rfl) rfl (by first | rfl | (show Value.slice (some ⟨_, 0, none⟩) 1 1 = _; simp)) HOV.out (by unfold maxLen; omega) (by omega) hszw ?_; intro g9 c9 w9 o9 gr9 at9 lt9; have HO9 := Lib.hid o9; have HB9 := Lib.hid (HBW.out.grown gr9 HBW.out.size (fun q hq => (HOV.out.lt q hq).1)); clear o9 gr9 at9 hrun)
          go_roundw
          case rel => exact ⟨k + 1, by omega, by go_num, by show World.ownsRow _ _ _ _ _ _ _; rw [HTK.out]; exact HO9.out, HB9⟩
          case measure => simp [RowKit.intOf]; omega
        · obtain rfl : k = T.length := by omega
          have HLL := Lib.hid (ll_of_groups (D := w.heap.size) HGS6.out HOV.out HBW.out (by have := HB4s.out; omega) HB6.out.size)
          have HE := Lib.hid (HB6.out.trans (HBW.out.mono HB6.out.size))
          have HDD : Hid ((T.map Prod.snd).map Prod.snd = (splitP V gg ng).map Prod.snd) := by show _ = _; rw [datT_snd, HD.out]
          clear HOV HBW HGS6 HB6 HO6
          go_wp2
          go_ret
          exact ⟨_, T.map Prod.snd, rfl, HDD.out, HLL.out, HE.out⟩

end Go.Proofs.YteciobkjfmddcaaGreat
set_option linter.unusedVariables false
namespace Go.Proofs.YteciobkjfmddcaaGreat
open Go Go.RowKit

structure Kept (n0 : Nat) (Z : Nat → Prop) (W W' : World) : Prop where
  bel : Below n0 W W'
  blk : ∀ k, Z k → k < W.heap.size → W'.heap[k]? = W.heap[k]?
theorem Kept.trans {n0 : Nat} {Z : Nat → Prop} {A B C : World} (h : Kept n0 Z A B) (k : Kept n0 Z B C) : Kept n0 Z A C :=
  ⟨h.bel.trans k.bel, fun q hq hl => (k.blk q hq (Nat.lt_of_lt_of_le hl h.bel.size)).trans (h.blk q hq hl)⟩
theorem Kept.of_below {n0 : Nat} {Z : Nat → Prop} {A B : World} (h : Below A.heap.size A B) (hn : n0 ≤ A.heap.size) : Kept n0 Z A B :=
  ⟨h.mono hn, fun q _ hl => h.block q hl⟩
theorem below_put (B : Nat) (W : World) (l : Nat) (o : Obj) (hl : B ≤ l) : Below B W (W.putObj l o) :=
  ⟨rfl, rfl, rfl, Nat.le_of_eq World.putObj_size.symm, fun k hk => World.putObj_heap_other (by omega)⟩
theorem below_put2 {W0 W : World} {l : Nat} {o : Obj} (h : Below W0.heap.size W0 W) : Below (W0.putObj l o).heap.size (W0.putObj l o) (W.putObj l o) := by
  refine ⟨h.os, h.tape, h.output, by simpa using h.size, fun k hk => ?_⟩
  have hk' : k < W0.heap.size := by simpa using hk
  by_cases e : k = l
  · subst e
    rw [World.putObj_heap_same hk', World.putObj_heap_same (Nat.lt_of_lt_of_le hk' h.size)]
  · rw [World.putObj_heap_other e, World.putObj_heap_other e]; exact h.block k hk'
theorem Kept.put {n0 : Nat} {Z : Nat → Prop} {l : Nat} (hn : n0 ≤ l) (hz : ¬ Z l) (W : World) (o : Obj) : Kept n0 Z W (W.putObj l o) :=
  ⟨below_put n0 W l o hn, fun k hk _ => World.putObj_heap_other (fun e => hz (e ▸ hk))⟩

variable {F : Fence} {n : Nat} {P : Program}

def SeqR {α : Type} (F : Fence) (n : Nat) (P : Program) (g : Nat) (lb : Array Value) (encs : α → Array Value) (n0 : Nat) (Z : α → Nat → Prop) (Rel : List α → α → World → World → Prop) (S Sp : List α → Prop) (w : World) : Prop :=
  ∀ (l : Nat) (J Jx : List α → World → Prop) (W : World), Below w.heap.size w W → AbidesFrom W.heap.size J → AbidesFrom W.heap.size Jx →
    (∀ pre x W0 W1, J pre W0 → Below W0.heap.size W0 W1 → Rel pre x W0 W1 → YieldAt F (n - 1) P l (encs x) W1 fun e W' =>
      (e = .returned (.bool true) ∧ J (pre ++ [x]) W' ∧ Kept n0 (Z x) W1 W') ∨ (e = .returned (.bool false) ∧ Jx (pre ++ [x]) W')) →
    J [] W → CallsIn F n P g (#[.func (.yield l) #[] #[]] ++ lb) W fun e W' => (∃ v, e = .returned v) ∧ ((∃ xs, S xs ∧ J xs W') ∨ (∃ pre, Sp pre ∧ Jx pre W'))

def relPost {α : Type} (B n0 : Nat) (Z : Nat → Prop) (I Ix : List α → World → Prop) (xs : List α) (W : World) : Exit → Act → World → Prop
  | .normal, _, W' => KeepsFrom B W W' ∧ Kept n0 Z W W' ∧ I xs W'
  | .ret, _, W' => KeepsFrom B W W' ∧ Ix xs W'
  | .exit _, _, _ => False
  | .goto _, _, _ => False
  | .panic _, _, _ => False
  | .outgrown, _, _ => False

theorem wpIn_rangeRel {α : Type} {g : Operand} {ps : Array Tmp} {assign body : Code} {Q : Exit → Act → World → Prop} {a : Act} {w : World}
    (hro : F.round = none) (h1 : 1 ≤ n) {gf : Nat} {lb : Array Value} (hg : a.eval g = .func (.func gf) #[] lb) (hFg : F.fn gf) (eg : ∀ args w, (callFunc gf args).run P w = .ok (.enter gf args) w)
    {encs : α → Array Value} {n0 : Nat} {Z : α → Nat → Prop} {Rel : List α → α → World → World → Prop} {S Sp : List α → Prop} {w0 : World} (hseq : SeqR F (n - 1) P gf lb encs n0 Z Rel S Sp w0)
    (hb0 : Below w0.heap.size w0 w) (hn0 : n0 ≤ w.heap.size) (hps : ∀ x, (encs x).size = ps.size)
    (hZ : ∀ pre x W0 W k, Rel pre x W0 W → Z x k → w.heap.size ≤ k → ∃ o : Obj, W.heap[k]? = some o ∧ o.isCells = true)
    (hR1 : ∀ pre x W0 W W', Rel pre x W0 W → Below W.heap.size W W' → Rel pre x W0 W')
    (hR2 : ∀ pre x W0 W l o o', Rel pre x W0 W → w.heap.size ≤ l → W.heap[l]? = some o → o.isCells = false → Rel pre x (W0.putObj l o') (W.putObj l o'))
    (I Ix : List α → World → Prop) (hI : OwnFrom w.heap.size I) (hIx : OwnFrom w.heap.size Ix) (h0 : I [] w) (Ax : α → Act → World → Prop) (hAx : ∀ x a', OwnFrom w.heap.size (fun (_ : Unit) W => Ax x a' W))
    (hassign : ∀ (l : Nat) (pre : List α) (x : α) (W0 W : World) (K : Act → World → Prop), I pre W0 → Below W0.heap.size W0 W → Rel pre x W0 W → w.heap.size + 2 ≤ W0.heap.size → (∀ a' W', Below W.heap.size W W' → Ax x a' W' → K a' W') →
      assign.wpIn (F.inRound l) (n - 1 - 1) P (Exit.then K (fun _ _ _ => False)) { tmps := (ps.zip (encs x)).foldl (fun t (p, v) => t.setIfInBounds p v) a.tmps, defers := [] } W)
    (hbody : ∀ (l : Nat) (pre : List α) (x : α) (a' : Act) (W0 W : World), I pre W0 → Below W0.heap.size W0 W → Rel pre x W0 W → Ax x a' W → w.heap.size + 2 ≤ W0.heap.size → body.wpIn (F.inRound l) (n - 1 - 1) P (relPost w.heap.size n0 (Z x) I Ix (pre ++ [x]) W) a' W)
    (hdone : ∀ (D : Nat) (xs : List α) (W : World), w.heap.size ≤ D → S xs → I xs W → W.heap[D]? = some (.deferred (some [])) → Q .normal { a with defers := { target := .collected D, args := #[] } :: a.defers } W)
    (hstop : ∀ (D : Nat) (pre : List α) (W : World), w.heap.size ≤ D → Sp pre → Ix pre W → W.heap[D]? = some (.deferred (some [])) → Code.ret.wpIn F n P Q { a with defers := { target := .collected D, args := #[] } :: a.defers } W) :
    (Code.rangeFunc g ps assign body).wpIn F n P Q a w := by
  apply wpIn_rangeFunc
  intro fn hfn
  rw [hro]
  -- the record of the loop, in its states
  obtain ⟨rc, hrc⟩ : ∃ rc : LoopState → Option Code → Loop, rc = fun s p => { state := s, pending := p, fn, tmps := a.tmps, params := ps, assign, body, defers := w.heap.size } := ⟨_, rfl⟩
  have hparams : ∀ s p, (rc s p).params = ps := by rw [hrc]; intro _ _; rfl
  have hst : ∀ s p, (rc s p).state = s := by rw [hrc]; intro _ _; rfl
  have hset : ∀ s p s' p', ({ rc s p with state := s', pending := p' } : Loop) = rc s' p' := by rw [hrc]; intro _ _ _ _; rfl
  have hset1 : ∀ s p s', ({ rc s p with state := s' } : Loop) = rc s' p := by rw [hrc]; intro _ _ _; rfl
  have hfn' : ∀ s p, (rc s p).fn = fn := by rw [hrc]; intro _ _; rfl
  have htm : ∀ s p, (rc s p).tmps = a.tmps := by rw [hrc]; intro _ _; rfl
  have has : ∀ s p, (rc s p).assign = assign := by rw [hrc]; intro _ _; rfl
  have hbo : ∀ s p, (rc s p).body = body := by rw [hrc]; intro _ _; rfl
  have hpe : ∀ s p, (rc s p).pending = p := by rw [hrc]; intro _ _; rfl
  have hlay := run_enterLoop_outer (P := P) (w := w) fn a.tmps ps assign body
  have hrc0 : ({ state := .ready, pending := none, fn, tmps := a.tmps, params := ps, assign, body, defers := w.heap.size } : Loop) = rc .ready none := by rw [hrc]
  rw [hrc0] at hlay
  clear hrc0 hrc
  obtain ⟨X, hX⟩ : ∃ X, (w.alloc (.deferred (some []))).alloc (.loop (rc .ready none)) = X := ⟨_, rfl⟩
  rw [hX] at hlay
  have xsz : X.heap.size = w.heap.size + 2 := by rw [← hX]; simp
  have xl : X.heap[w.heap.size + 1]? = some (.loop (rc .ready none)) := by
    have := World.alloc_heap_new (w.alloc (.deferred (some []))) (.loop (rc .ready none))
    rw [World.size_alloc, hX] at this
    exact this
  have xd : X.heap[w.heap.size]? = some (.deferred (some [])) := by
    rw [← hX]
    exact (Below.heap_alloc _ _ _ (by simp)).trans (World.alloc_heap_new w _)
  have xI : I [] X := by rw [← hX]; exact hI.alloc _ (hI.alloc _ h0)
  have xb : Below w0.heap.size w0 X := by
    rw [← hX]
    exact hb0.trans ((((Below.refl _ w).alloc (Nat.le_refl _) _).alloc (by simp) _).mono hb0.size)
  clear hX
  refine ⟨w.heap.size + 1, [{ target := .collected w.heap.size, args := #[] }], X, { target := .fn (.func gf) lb, args := #[.func (.yield (w.heap.size + 1)) #[] #[]] }, X, gf, #[.func (.yield (w.heap.size + 1)) #[] #[]] ++ lb, X, hlay, ?_, ?_, ?_, fun _ => h1, ?_⟩
  · simp only [resolve, hg]
    simp [go_sem]
  · intro f' hf'
    simp [Target.leads] at hf'
    rw [← hf']; exact hFg
  · simp [invoke, go_sem, eg]
  have walkless : ∀ {A B : World} {row : Option Nat}, (∀ r, row = some r → X.heap.size ≤ r ∧ ∃ o : Obj, A.heap[r]? = some o ∧ o.isWalk = true) → (∀ r, row = some r → w.heap.size ≤ r ∧ ∃ o : Obj, A.heap[r]? = some o ∧ o.isCells = false) := by
    intro A B row hr r e
    obtain ⟨h3, o, h4, h5⟩ := hr r e
    exact ⟨by omega, o, h4, Obj.not_cells_of_walk h5⟩
  refine (hseq (w.heap.size + 1)
    (fun pre W => I pre W ∧ W.heap[w.heap.size + 1]? = some (.loop (rc .ready none)) ∧ W.heap[w.heap.size]? = some (.deferred (some [])))
    (fun pre W => Ix pre W ∧ W.heap[w.heap.size + 1]? = some (.loop (rc .done (some .ret))) ∧ W.heap[w.heap.size]? = some (.deferred (some [])))
    X xb ?_ ?_ ?_ ⟨xI, xl, xd⟩).mono ?_
  · rintro s A B row ⟨s1, s2, s3⟩ hgr hr
    exact ⟨hI s A B row s1 hgr (walkless (B := B) hr), (grownBy_keeps hgr (fun r e => (hr r e).2) s2 rfl).trans s2, (grownBy_keeps hgr (fun r e => (hr r e).2) s3 rfl).trans s3⟩
  · rintro s A B row ⟨s1, s2, s3⟩ hgr hr
    exact ⟨hIx s A B row s1 hgr (walkless (B := B) hr), (grownBy_keeps hgr (fun r e => (hr r e).2) s2 rfl).trans s2, (grownBy_keeps hgr (fun r e => (hr r e).2) s3 rfl).trans s3⟩
  · -- a round
    rintro pre x W0 W ⟨i0, l0, d0⟩ hbel hrel
    have lt0 : w.heap.size + 1 < W0.heap.size := (Array.getElem?_eq_some_iff.1 l0).1
    have l1 : W.heap[w.heap.size + 1]? = some (.loop (rc .ready none)) := (hbel.block _ lt0).trans l0
    have d1 : W.heap[w.heap.size]? = some (.deferred (some [])) := (hbel.block _ (by omega)).trans d0
    have hnz : ¬ Z x (w.heap.size + 1) := fun hz => by
      obtain ⟨o, e1, e2⟩ := hZ pre x W0 W _ hrel hz (by omega)
      rw [l1] at e1; cases e1; cases e2
    have hy := run_yield (P := P) (args := encs x) l1 (by rw [hparams]; exact hps x)
    rw [hparams, hfn', htm, has, hbo] at hy
    refine ⟨fn, _, assign, body, hy, roundIn_of_wpIn hfn (hassign _ pre x W0 W _ i0 hbel hrel (by omega) ?_)⟩
    intro a' Wa hba hax
    have lta : w.heap.size + 1 < Wa.heap.size := Nat.lt_of_lt_of_le lt0 (Nat.le_trans hbel.size hba.size)
    have la : Wa.heap[w.heap.size + 1]? = some (.loop (rc .ready none)) := (hba.block _ (Array.getElem?_eq_some_iff.1 l1).1).trans l1
    have da : Wa.heap[w.heap.size]? = some (.deferred (some [])) := (hba.block _ (Array.getElem?_eq_some_iff.1 d1).1).trans d1
    have hbeg := run_beginRound (P := P) la (hst _ _)
    rw [hset1] at hbeg
    refine ⟨_, hbeg, ?_⟩
    obtain ⟨Y, hY⟩ : ∃ Y, Wa.putObj (w.heap.size + 1) (.loop (rc .busy none)) = Y := ⟨_, rfl⟩
    have ly : Y.heap[w.heap.size + 1]? = some (.loop (rc .busy none)) := by rw [← hY]; exact World.putObj_heap_same lta
    have dy : Y.heap[w.heap.size]? = some (.deferred (some [])) := by rw [← hY]; exact (World.putObj_heap_other (by omega)).trans da
    have iy : I pre (W0.putObj (w.heap.size + 1) (.loop (rc .busy none))) := hI.putObj _ i0 (by omega) l0 rfl
    have ry : Rel pre x (W0.putObj (w.heap.size + 1) (.loop (rc .busy none))) Y := by
      rw [← hY]
      exact hR2 pre x W0 Wa _ _ _ (hR1 pre x W0 W Wa hrel hba) (by omega) la rfl
    have by' : Below (W0.putObj (w.heap.size + 1) (.loop (rc .busy none))).heap.size (W0.putObj (w.heap.size + 1) (.loop (rc .busy none))) Y := by
      rw [← hY]
      exact below_put2 (hbel.trans (hba.mono hbel.size))
    have ay : Ax x a' Y := by rw [← hY]; exact (hAx x a').putObj (s := ()) _ hax (by omega) la rfl
    have ky : Kept n0 (Z x) W Y := by
      rw [← hY]
      exact (Kept.of_below hba (by have := hbel.size; omega)).trans (Kept.put (by omega) hnz _ _)
    rw [hY]
    clear hY hbeg
    refine wpIn_mono (hbody _ pre x a' _ Y iy by' ry ay (by simp; omega)) ?_
    have fin : ∀ (j : Option Code) (W3 : World), KeepsFrom w.heap.size Y W3 → ∃ W4, (Instr.endRound (w.heap.size + 1) j).run P W3 = .ok (.bool j.isNone) W4 ∧ W4 = W3.putObj (w.heap.size + 1) (.loop (rc (if j.isNone then .ready else .done) j)) ∧
        W3.heap[w.heap.size + 1]? = some (.loop (rc .busy none)) ∧ W4.heap[w.heap.size + 1]? = some (.loop (rc (if j.isNone then .ready else .done) j)) ∧ W4.heap[w.heap.size]? = some (.deferred (some [])) := by
      intro j W3 hk
      have l3 := hk.same _ _ (by omega) ly rfl
      have d3 := hk.same _ _ (Nat.le_refl _) dy rfl
      have := run_endRound (P := P) j l3
      rw [hset] at this
      exact ⟨_, this, rfl, l3, World.putObj_heap_same (Array.getElem?_eq_some_iff.1 l3).1, (World.putObj_heap_other (by omega)).trans d3⟩
    rintro e a3 W3 hp
    cases e with
    | normal =>
      obtain ⟨k3, q3, i3⟩ := hp
      obtain ⟨W4, hr, e4, l3, l4, d4⟩ := fin none W3 k3
      refine ⟨_, _, hr, .inl ⟨rfl, ⟨?_, l4, d4⟩, ?_⟩⟩
      · rw [e4]; exact hI.putObj _ i3 (by omega) l3 rfl
      · rw [e4]; exact (ky.trans q3).trans (Kept.put (by omega) hnz _ _)
    | ret =>
      obtain ⟨k3, i3⟩ := hp
      obtain ⟨W4, hr, e4, l3, l4, d4⟩ := fin (some .ret) W3 k3
      refine ⟨_, _, hr, .inr ⟨rfl, ?_, l4, d4⟩⟩
      rw [e4]; exact hIx.putObj _ i3 (by omega) l3 rfl
    | exit _ => exact hp.elim
    | goto _ => exact hp.elim
    | panic _ => exact hp.elim
    | outgrown => exact hp.elim
  · -- behind the iterator
    rintro e W2 ⟨⟨v, rfl⟩, h⟩
    rcases h with ⟨xs, hS, i2, l2, d2⟩ | ⟨pre, hS, i2, l2, d2⟩
    · have he := run_endLoop (P := P) l2 (by rw [hst]; simp)
      rw [hpe] at he
      exact ⟨none, _, he, hdone _ xs _ (Nat.le_refl _) hS (hI.putObj _ i2 (by omega) l2 rfl) ((World.putObj_heap_other (by omega)).trans d2)⟩
    · have he := run_endLoop (P := P) l2 (by rw [hst]; simp)
      rw [hpe] at he
      exact ⟨some .ret, _, he, hstop _ pre _ (Nat.le_refl _) hS (hIx.putObj _ i2 (by omega) l2 rfl) ((World.putObj_heap_other (by omega)).trans d2)⟩

def noDefer (ops : Array Oper) : Bool := ops.all fun o => match o.op with
  | .defer _ => false
  | _ => true
theorem noDefer_at {ops : Array Oper} (h : noDefer ops = true) {i : Nat} {o : Oper} (ho : ops[i]? = some o) : ∀ c, o.op ≠ .defer c := by
  intro c e
  unfold noDefer at h
  rw [Array.all_eq_true'] at h
  have := h o (Array.mem_of_getElem? ho)
  rw [e] at this
  cases this
section
variable {P : Program} {ops : Array Oper} {Q : Exit → Act → World → Prop} {md : Region.Mode} {l n : Nat}
theorem upon_round {o : Oper} {a : Act} {next : Act → World → Prop} {r : Result Next} (h : o.upon P a next Q r) : o.uponIn (Fence.wide.inRound l) n P a next Q r := by
  cases r with
  | ok x w' =>
    cases x <;> simp only [Oper.upon] at h <;> simp only [Oper.uponIn]
    all_goals first
      | exact h
      | exact ⟨(fun e => by cases e), (CallsIn.inRound l (callsIn_wide.2 h)).mono fun e w hh => by cases e <;> exact hh⟩
      | (refine ⟨(fun e => by cases e), fun c cs _ => ?_⟩
         obtain ⟨v, w2, q, s⟩ := h c cs
         exact ⟨v, w2, q, stepsIn_wide.2 s⟩)
  | halt x w' => cases x <;> simp only [Oper.upon] at h <;> simp only [Oper.uponIn] <;> exact h
theorem wpOp_round (hd : noDefer ops = true) (hQ : ¬ LetsOut Q) {i : Nat} {K K' : Act → World → Prop} (hK : ∀ a w, K a w → K' a w) {a : Act} {w : World} (h : wpOp P ops Q i K a w) : wpOpIn (Fence.wide.inRound l) n P ops Q i K' a w := by
  unfold wpOp at h
  unfold wpOpIn
  cases ho : ops[i]? with
  | none => rw [ho] at h; exact hK _ _ h
  | some o =>
    rw [ho] at h
    simp only at h ⊢
    split
    · rename_i hw
      rw [if_pos hw] at h
      rcases h with h | h
      · have h2 := Oper.wp_mono hK h
        refine ⟨fun _ _ => trivial, ?_⟩
        rw [Oper.semAt_eq _ _ _ (noDefer_at hd ho)]
        exact upon_round h2
      · exact absurd h.2 hQ
    · rename_i hw
      rw [if_neg hw] at h
      exact ⟨fun _ _ => trivial, hK _ _ h⟩
theorem wpAny_round (hd : noDefer ops = true) (hQ : ¬ LetsOut Q) : ∀ (fuel : Nat) (L : Array Bool) (a : Act) (w : World), wpAny P md ops Q fuel L a w → wpAnyIn (Fence.wide.inRound l) n P md ops Q fuel L a w
  | 0, _, _, _, h => h
  | fuel + 1, L, a, w, h => ⟨h.1, fun i hi => wpOp_round hd hQ (fun a w => wpAny_round hd hQ fuel _ a w) (h.2 i hi)⟩
theorem region_round_held {S : World → Prop} {id : Nat} {a : Act} {w : World} (hm : P.follows .mixedOrders = true) (hd : noDefer ops = true) (hQ : ¬ LetsOut Q) (hS : S w.drew)
    (h : S w.drew → wpAnyH P .any ops Q S ops.size (Array.replicate ops.size false) a w.drew) : (Code.region id ops true).wpIn (Fence.wide.inRound l) n P Q a w :=
  wpIn_region_any hm (wpAny_round hd hQ _ _ _ _ (wpAny_of_held _ _ _ _ (h hS)))
end

end Go.Proofs.YteciobkjfmddcaaGreat
set_option linter.unusedVariables false
namespace Go.Proofs.YteciobkjfmddcaaGreat
open Go.RowKit

set_option maxRecDepth 100000 in
set_option maxHeartbeats 2000000 in
theorem separationsOf_impl (fa : Option Addr) (fc : Nat) (la : Option Addr) (lc : Nat) (ga : Option Addr) (gc : Nat) (qa : Option Addr) (qc : Nat) (ta : Option Addr) (tc : Nat) (b : BookD) (ra : Option Addr) (rc : Nat) (t : Int) (w : World) :
    Calls Tryz.prog 39 #[.agg #[.slice fa b.nf fc, .int .i64 b.win, .int .i64 b.draw, .int .i64 b.loss, .slice la b.nl lc, .bool b.again, .slice ga b.m gc, .slice qa b.nfa qc, .slice ta b.nta tc, .slice ra b.nf rc], .int .i64 t] w fun e w' =>
      e = .returned (.func (.func 83) #[] #[.pointer (some ⟨w.heap.size, 0, none⟩), .pointer (some ⟨w.heap.size + 2, 0, none⟩), .pointer (some ⟨w.heap.size + 1, 0, none⟩)]) ∧
      BoxN w' w.heap.size [.slice fa b.nf fc, .int .i64 b.win, .int .i64 b.draw, .int .i64 b.loss, .slice la b.nl lc, .bool b.again, .slice ga b.m gc, .slice qa b.nfa qc, .slice ta b.nta tc, .slice ra b.nf rc] ∧
      BoxN w' (w.heap.size + 1) [.int .i64 t] ∧ BoxN w' (w.heap.size + 2) [.int .i64 b.win, .int .i64 b.draw, .int .i64 b.loss, .slice la b.nl lc, .bool b.again] ∧ Below w.heap.size w w' ∧ w'.heap.size = w.heap.size + 3 := by
  go_enter Tryz.func39, Tryz.ntmps39
  go_wp2
  go_ret
  refine ⟨rfl, BoxN.made (((Below.refl _ _).alloc (Nat.le_refl _) _).alloc (by simp) _) rfl, BoxN.made ((Below.refl _ _).alloc (Nat.le_refl _) _) (by simp), BoxN.made (Below.refl _ _) (by simp), (((Below.refl _ _).alloc (Nat.le_refl _) _).alloc (by simp) _).alloc (by simp; omega) _, by simp⟩

theorem BoxN.same {w w' : World} {B : Nat} {cs : List Value} (h : BoxN w B cs) (hs : w.heap.size ≤ w'.heap.size) (hb : w'.heap[B]? = w.heap[B]?) : BoxN w' B cs :=
  ⟨Nat.lt_of_lt_of_le h.1 hs, fun j v hj => (World.cell?_of_block (w := w) (a := ⟨B, j, none⟩) hb).trans (h.2 j v hj)⟩
theorem RecRow.same {k n : Nat} {w w' : World} {v : Value} {g : Nat → List Value} (h : RecRow k w v n g) (hs : w.heap.size ≤ w'.heap.size) (hb : ∀ q, v.ownBlock = some q → q < w.heap.size → w'.heap[q]? = w.heap[q]?) : RecRow k w' v n g := by
  rcases h with h | ⟨b, off, cap, rfl, h0, h2, h3, h4⟩
  · exact .inl h
  · exact .inr ⟨b, off, cap, rfl, h0, h2, fun i hi => ⟨Nat.lt_of_lt_of_le (h3 i hi).1 hs, fun j u hu => (World.cell?_of_block (w := w) (a := ⟨b, off + i * k + j, none⟩) (hb b rfl (h3 i hi).1)).trans ((h3 i hi).2 j u hu)⟩, h4⟩
theorem owns_same {w w' : World} {base : Nat} {e : TypeId} {size n : Nat} {v : Value} {xs : List Value} (h : w.ownsRow base e size v n xs) (hs : w.heap.size ≤ w'.heap.size) (hb : ∀ q, v.ownBlock = some q → w'.heap[q]? = w.heap[q]?) : w'.ownsRow base e size v n xs := by
  refine ⟨h.1, ?_⟩
  rcases h.2 with hn | ⟨g, cap, cur, rfl, hbg, hgg, rest⟩
  · exact .inl hn
  · exact .inr ⟨g, cap, cur, rfl, hbg, (hb g rfl).trans hgg, rest⟩
structure SpAt (W : World) (B Br Bt : Nat) (fa : Option Addr) (fc : Nat) (la : Option Addr) (lc : Nat) (ga : Option Addr) (gc : Nat) (qa : Option Addr) (qc : Nat) (ta : Option Addr) (tc : Nat) (b : BookD) (ra : Option Addr) (rc : Nat) (t : Int) : Prop where
  box : BoxN W B [.slice fa b.nf fc, .int .i64 b.win, .int .i64 b.draw, .int .i64 b.loss, .slice la b.nl lc, .bool b.again, .slice ga b.m gc, .slice qa b.nfa qc, .slice ta b.nta tc, .slice ra b.nf rc]
  tm : BoxN W Bt [.int .i64 t]
  ru : BoxN W Br [.int .i64 b.win, .int .i64 b.draw, .int .i64 b.loss, .slice la b.nl lc, .bool b.again]
  row : BookRow W (.slice fa b.nf fc) (.slice la b.nl lc) (.slice ga b.m gc) (.slice qa b.nfa qc) (.slice ta b.nta tc) b
  tab : RowRow W (.slice ra b.nf rc) b.nf (tabAll b)
section
variable {W W' : World} {B Br Bt : Nat} {fa : Option Addr} {fc : Nat} {la : Option Addr} {lc : Nat} {ga : Option Addr} {gc : Nat} {qa : Option Addr} {qc : Nat} {ta : Option Addr} {tc : Nat} {b : BookD} {ra : Option Addr} {rc : Nat} {t : Int}
theorem SpAt.next (h : SpAt W B Br Bt fa fc la lc ga gc qa qc ta tc b ra rc t) (hb : Below W.heap.size W W') : SpAt W' B Br Bt fa fc la lc ga gc qa qc ta tc b ra rc t :=
  ⟨BoxN.below h.box hb, BoxN.below h.tm hb, BoxN.below h.ru hb, h.row.below hb (Nat.le_refl _), h.tab.below hb (Nat.le_refl _)⟩
theorem SpAt.kept {wn w : World} {H : Nat} (h : SpAt w B Br Bt fa fc la lc ga gc qa qc ta tc b ra rc t) (hrow : BookRow wn (.slice fa b.nf fc) (.slice la b.nl lc) (.slice ga b.m gc) (.slice qa b.nfa qc) (.slice ta b.nta tc) b) (hbel : Below wn.heap.size wn w) (hB : H ≤ B) (hBr : H ≤ Br) (hBt : H ≤ Bt) (hra : ∀ q, (Value.slice ra b.nf rc).ownBlock = some q → H ≤ q)
    (k : Kept wn.heap.size (fun k => H ≤ k ∧ k < w.heap.size) w W) : SpAt W B Br Bt fa fc la lc ga gc qa qc ta tc b ra rc t :=
  ⟨h.box.same k.bel.size (k.blk _ ⟨hB, h.box.1⟩ h.box.1), h.tm.same k.bel.size (k.blk _ ⟨hBt, h.tm.1⟩ h.tm.1), h.ru.same k.bel.size (k.blk _ ⟨hBr, h.ru.1⟩ h.ru.1),
    hrow.below (hbel.trans k.bel) (Nat.le_refl _), RecRow.same h.tab k.bel.size (fun q hq hl => k.blk q ⟨hra q hq, hl⟩ hl)⟩
theorem SpAt.cells (h : SpAt W B Br Bt fa fc la lc ga gc qa qc ta tc b ra rc t) : W.cell? ⟨B, 0, none⟩ = some (.slice fa b.nf fc) ∧ W.cell? ⟨B, 1, none⟩ = some (.int .i64 b.win) ∧ W.cell? ⟨B, 2, none⟩ = some (.int .i64 b.draw) ∧ W.cell? ⟨B, 3, none⟩ = some (.int .i64 b.loss) ∧ W.cell? ⟨B, 4, none⟩ = some (.slice la b.nl lc) ∧ W.cell? ⟨B, 5, none⟩ = some (.bool b.again) ∧ W.cell? ⟨B, 6, none⟩ = some (.slice ga b.m gc) ∧ W.cell? ⟨B, 7, none⟩ = some (.slice qa b.nfa qc) ∧ W.cell? ⟨B, 8, none⟩ = some (.slice ta b.nta tc) ∧ W.cell? ⟨B, 9, none⟩ = some (.slice ra b.nf rc) :=
  ⟨h.box.2 0 _ rfl, h.box.2 1 _ rfl, h.box.2 2 _ rfl, h.box.2 3 _ rfl, h.box.2 4 _ rfl, h.box.2 5 _ rfl, h.box.2 6 _ rfl, h.box.2 7 _ rfl, h.box.2 8 _ rfl, h.box.2 9 _ rfl⟩
theorem SpAt.rules (h : SpAt W B Br Bt fa fc la lc ga gc qa qc ta tc b ra rc t) : W.cell? ⟨Br, 3, none⟩ = some (.slice la b.nl lc) ∧ W.cell? ⟨Br, 4, none⟩ = some (.bool b.again) ∧ W.cell? ⟨Bt, 0, none⟩ = some (.int .i64 t) :=
  ⟨h.ru.2 3 _ rfl, h.ru.2 4 _ rfl, h.tm.2 0 _ rfl⟩
end
structure SepX where
  key : Int
  gv : Value
  grp : List Int
  pv : Value
  part : List Int
def SepX.dat (x : SepX) : SepD := ⟨x.key, x.grp, x.part⟩
abbrev encX (x : SepX) : Array Value := #[.agg #[.int .i64 x.key, x.gv, x.pv]]
def sepAll (b : BookD) (t : Int) : List SepD := sepP b t (allL b.nf) 0
def ZX (H E : Nat) (x : SepX) (k : Nat) : Prop := (H ≤ k ∧ k < E) ∨ x.pv.ownBlock = some k
def RelX (b : BookD) (t : Int) (D : Nat) (pre : List SepX) (x : SepX) (W0 W : World) : Prop :=
  (∃ rest, sepAll b t = pre.map SepX.dat ++ x.dat :: rest) ∧ W.ownsRow D 3 1 x.gv x.grp.length (x.grp.map (Value.int .i64)) ∧ W.ownsRow W0.heap.size 3 1 x.pv x.part.length (x.part.map (Value.int .i64)) ∧ D ≤ W0.heap.size
def SX (b : BookD) (t : Int) (xs : List SepX) : Prop := xs.map SepX.dat = sepAll b t
def SpX (b : BookD) (t : Int) (xs : List SepX) : Prop := ∃ rest, sepAll b t = xs.map SepX.dat ++ rest
def lenV : Value → Nat
  | .slice _ n _ => n
  | _ => 0
theorem teams_of {G : List Int} {n : Nat} (h : ∀ u ∈ G, 0 ≤ u ∧ u < (n : Int)) : teamsP n G.length (getI G) := fun i hi => by
  have e : getI G i = G[i] := by unfold getI; simp [hi]
  have := h G[i] (List.getElem_mem hi)
  rw [e]
  omega
set_option maxRecDepth 100000 in
set_option maxHeartbeats 4000000 in
theorem sepIter (dp : Nat) (hdp : 1 ≤ dp) (wn w : World) (H B Br Bt : Nat) (fa : Option Addr) (fc : Nat) (la : Option Addr) (lc : Nat) (ga : Option Addr) (gc : Nat) (qa : Option Addr) (qc : Nat) (ta : Option Addr) (tc : Nat) (b : BookD) (ra : Option Addr) (rc : Nat) (t : Int) (hp : bookP b) (ht : 0 ≤ t ∧ t < (b.nf : Int)) (h0 : SpAt w B Br Bt fa fc la lc ga gc qa qc ta tc b ra rc t) (hrow : BookRow wn (.slice fa b.nf fc) (.slice la b.nl lc) (.slice ga b.m gc) (.slice qa b.nfa qc) (.slice ta b.nta tc) b) (hbel : Below wn.heap.size wn w) (hnH : wn.heap.size ≤ H)
    (hB : H ≤ B) (hBr : H ≤ Br) (hBt : H ≤ Bt) (hra : ∀ q, (Value.slice ra b.nf rc).ownBlock = some q → H ≤ q) :
    SeqR Fence.wide dp Tryz.prog 83 #[.pointer (some ⟨B, 0, none⟩), .pointer (some ⟨Br, 0, none⟩), .pointer (some ⟨Bt, 0, none⟩)] encX wn.heap.size (ZX H w.heap.size) (RelX b t w.heap.size) (SX b t) (SpX b t) w := by
  intro l J Jx W hW hJ hJx hY hJ0
  have KE : Hid (∀ U, Kept wn.heap.size (fun k => H ≤ k ∧ k < w.heap.size) w U → SpAt U B Br Bt fa fc la lc ga gc qa qc ta tc b ra rc t) := fun U k => h0.kept hrow hbel hB hBr hBt hra k
  have K0 := Lib.hid (Kept.of_below (n0 := wn.heap.size) (Z := fun k => H ≤ k ∧ k < w.heap.size) hW hbel.size)
  have hnw : wn.heap.size ≤ W.heap.size := Nat.le_trans hbel.size hW.size
  have HNw := Lib.hid hbel.size
  have HW := Lib.hid hW
  have HY := Lib.hid hY
  have HJ0 := Lib.hid hJ0
  have HJA : Hid (∀ pre A U, J pre A → Below A.heap.size A U → J pre U) := fun pre A U h hb => hJ pre A U none h (below_grown hb (Nat.le_refl _)) (fun r e => by cases e)
  have A0 := KE.out _ K0.out
  have hsix := A0.row.sixty
  have CA := Lib.hid (fun (U : World) (h : SpAt U B Br Bt fa fc la lc ga gc qa qc ta tc b ra rc t) => allTeamsOf_impl _ _ _ _ _ b U h.row (by have := hp.1.1; omega))
  clear hW hY hJ0 hrow hbel hJ hJx
  obtain ⟨d0, d1, d2, d3, d4, d5, d6, d7, d8, d9⟩ := A0.cells
  refine callsIn_of_wp Tryz.func83 rfl trivial ?_ rfl
  simp only [Tryz.ntmps83, List.size_toArray, List.length_cons, List.length_nil, Nat.reduceAdd, Nat.reduceSub, Array.replicate_succ, Array.replicate_zero, List.push_toArray, List.append_toArray, List.nil_append, List.cons_append]
  refine wpIn_wide.2 ?_
  go_wp2_with fail
  refine (CA.out _ A0).mono ?_
  rintro e w1 ⟨v1, rfl, ho1, b1⟩
  obtain ⟨aa, ac, hvf⟩ := owns_form ho1
  subst hvf
  have HO1 := Lib.hid ho1
  have K1 := Lib.hid (K0.out.trans (Kept.of_below b1 hnw))
  clear d0 d1 d2 d3 d4 d5 d6 d7 d8 d9 A0 ho1
  go_wp2
  have CMU := Lib.hid (fun wa => isMutual_impl (b.l 0) wa)
  clear CMU
  have hnl8 : b.nl ≤ 8 := by have := hp.2.1.2.2.2.1; omega
  have hnf8 : b.nf ≤ 8 := by have := hp.1.1; omega
  have HAL : Hid ((∀ u ∈ allL b.nf, 0 ≤ u ∧ u < (b.nf : Int)) ∧ t ∈ allL b.nf ∧ (allL b.nf).length ≤ 8) := ⟨fun u hu => allL_mem.1 hu, allL_mem.2 ht, by rw [allL_len]; exact hnf8⟩
  have HWs := Lib.hid HW.out.size
  have CSP : Hid (∀ (U : World) (s : Nat) (gv : Value) (G : List Int), SpAt U B Br Bt fa fc la lc ga gc qa qc ta tc b ra rc t → IntRow U gv G.length (getI G) → (∀ u ∈ G, 0 ≤ u ∧ u < (b.nf : Int)) → G.length ≤ 8 → Calls Tryz.prog 36 #[.agg #[.slice fa b.nf fc, .int .i64 b.win, .int .i64 b.draw, .int .i64 b.loss, .slice la b.nl lc, .bool b.again, .slice ga b.m gc, .slice qa b.nfa qc, .slice ta b.nta tc, .slice ra b.nf rc], .int .i64 (b.l s), gv] U (ListsL U (partsL b (b.l s) (getI G) G.length))) := fun U s gv G h hg hG h8 =>
    split_impl fa fc la lc ga gc qa qc ta tc b ra rc (b.l s) gv G.length (getI G) U hp h.row h.tab hg (teams_of hG) (by omega)
  go_loopw [5, 6] (fun gvv iv wr => ∃ (pre : List SepX) (G : List Int) (s : Nat) (W0 : World) (a : Option Addr) (c : Nat), gvv = .slice a G.length c ∧ iv = .int .i64 s ∧ s ≤ b.nl ∧ Hid (wr.ownsRow w.heap.size 3 1 gvv G.length (G.map (Value.int .i64))) ∧
      Hid (sepAll b t = pre.map SepX.dat ++ sepP b t G s) ∧ Hid ((∀ u ∈ G, 0 ≤ u ∧ u < (b.nf : Int)) ∧ t ∈ G ∧ G.length ≤ 8) ∧ Hid (J pre W0 ∧ w.heap.size ≤ W0.heap.size) ∧ Hid (Below W0.heap.size W0 wr) ∧ Hid (Kept wn.heap.size (fun k => H ≤ k ∧ k < w.heap.size) w wr)) (fun gvv iv _ => rankM b.nl (lenV gvv) (RowKit.intOf iv).toNat)
  case atStart => exact ⟨[], allL b.nf, 0, W, aa, ac, rfl, rfl, Nat.zero_le _, owns_mono HO1.out HWs.out, rfl, HAL.out, ⟨HJ0.out, HWs.out⟩, b1, K1.out⟩
  case round =>
    obtain ⟨pre, G, s, W0, ga2, gc2, rfl, rfl, hsl, HO, HS, HGI, HJW, HB, HK⟩ := hrel
    clear HO1 K1 HAL HJ0 K0 b1 HW CA
    have A := KE.out _ HK.out
    obtain ⟨r3, r4, r5⟩ := A.rules
    obtain ⟨n, hn2⟩ : ∃ n, G.length = n := ⟨_, rfl⟩
    have h8 : n ≤ 8 := by rw [← hn2]; exact HGI.out.2.2
    have HN2 := Lib.hid hn2
    by_cases hend : n < 2 ∨ b.nl ≤ s
    · have HE : Hid (sepAll b t = pre.map SepX.dat) := by show _ = _; rw [HS.out, sepP_end b t (by rw [HN2.out]; exact hend), List.append_nil]
      rw [hn2]
      clear hn2
      have hways : (decide ((1 : Int) < (n : Int)) = false ∧ decide (1 < n) = false) ∨ (decide ((1 : Int) < (n : Int)) = true ∧ decide (1 < n) = true) ∧ decide ((s : Int) < (b.nl : Int)) = false ∧ decide (s < b.nl) = false := by
        by_cases h2 : n < 2
        · exact .inl ⟨decide_eq_false (by omega), decide_eq_false (by omega)⟩
        · exact .inr ⟨⟨decide_eq_true (by omega), decide_eq_true (by omega)⟩, decide_eq_false (by omega), decide_eq_false (by omega)⟩
      have HF : Hid ((∃ xs, SX b t xs ∧ J xs wr) ∨ ∃ pre, SpX b t pre ∧ Jx pre wr) := .inl ⟨pre, HE.out.symm, HJA.out _ _ _ HJW.out.1 HB.out⟩
      rcases hways with ⟨g1, g2⟩ | ⟨⟨g1, g2⟩, g3, g4⟩
      all_goals
        go_wp2
        go_end0
        exact ⟨⟨_, rfl⟩, HF.out⟩
    · have hs : s < b.nl := by omega
      have hsx : (s : Int) < b.nl := by omega
      have g1 : decide ((1 : Int) < (n : Int)) = true := decide_eq_true (by omega)
      have g2 : decide (1 < n) = true := decide_eq_true (by omega)
      have g3 : decide ((s : Int) < (b.nl : Int)) = true := decide_eq_true (by omega)
      have g4 : decide (s < b.nl) = true := decide_eq_true hs
      obtain ⟨lb, lof, rfl, hlc, cl0⟩ := int_at A.row.2.1 hs
      have HCL : Hid (∀ U, Below wr.heap.size wr U → U.cell? ⟨lb, lof + s, none⟩ = some (.int .i64 (b.l s))) := fun U hb => (hb.cell (p := ⟨lb, lof + s, none⟩) (World.block_lt_of_cell? wr _ cl0)).trans cl0
      obtain ⟨p, hpp⟩ := part_has (b := b) (key := b.l s) HGI.out.2.1
      have HP := Lib.hid hpp
      have hpm := hit_mem hpp
      have HPL : Hid (p.length ≤ n ∧ (∀ u ∈ p, u ∈ G) ∧ t ∈ p ∧ (p.length ≠ n → 1 < (partsL b (b.l s) (getI G) G.length).length)) := ⟨by rw [← HN2.out]; exact partsL_le hpm, parts_in hpm, part_mem hpp, fun hne => by
        have h1 : ¬ (partsL b (b.l s) (getI G) G.length).length = 1 := fun e => hne (((part_whole hpm).2 e).trans HN2.out)
        have := List.length_pos_of_mem hpm
        omega⟩
      have HSone : Hid (p.length = n → sepP b t G s = sepP b t G (s + 1)) := fun e => sepP_one b t (by rw [HN2.out]; omega) hs hpp (e.trans HN2.out.symm)
      have HSon : Hid (p.length ≠ n → sepP b t G s = ⟨b.l s, G, p⟩ :: sepP b t p (nextS b (partsL b (b.l s) (getI G) G.length).length s)) := fun e => sepP_on b t (by rw [HN2.out]; omega) hs hpp (fun h => e (h.trans HN2.out))
      have HM1 : Hid (rankM b.nl n (s + 1) < rankM b.nl n s) := stepM_lt hs
      have HM2 : Hid (rankM b.nl p.length (nextS b (partsL b (b.l s) (getI G) G.length).length s) < rankM b.nl n s) := Nat.lt_of_lt_of_eq (rankM_lt (b := b) (s := s) hs hpm) (by rw [HN2.out])
      have CPA : Hid (∀ (U : World) (D : Nat) (v : Value) (T : List (Value × List Int)), LL U D v T → T.map Prod.snd = partsL b (b.l s) (getI G) G.length → Calls Tryz.prog 85 #[.int .i64 t, v] U fun e w' => ∃ x ∈ T, x.2 = p ∧ e = .returned x.1 ∧ Below U.heap.size U w') := fun U D v T h e =>
        partWith_impl t v D T p U h (by have h1 := congrArg List.length e; rw [List.length_map] at h1; have := partsL_len (b := b) (key := b.l s) (gg := getI G) (n := G.length); have := HGI.out.2.2; omega) (by rw [e]; exact hpp) (fun x hx => by
          have h1 : x.2 ∈ partsL b (b.l s) (getI G) G.length := by rw [← e]; exact List.mem_map.2 ⟨x, hx, rfl⟩
          have := partsL_le h1; have := HGI.out.2.2; omega)
      have CSG := Lib.hid (fun U h hg => CSP.out U s (.slice ga2 G.length gc2) G h hg HGI.out.1 HGI.out.2.2)
      rw [hn2] at CSG HO CPA HM2 HSon HPL ⊢
      clear hn2 hpp hpm CSP
      generalize partsL b (b.l s) (getI G) n = PL at *
      have HNX : Hid (nextS b PL.length s = if 1 < PL.length ∧ b.again = true ∧ mutualB (b.l s) = true then 0 else s + 1) := rfl
      generalize nextS b PL.length s = nx at *
      have CMU := Lib.hid (fun wa => isMutual_impl (b.l s) wa)
      generalize mutualB (b.l s) = mu at *
      have HKEY : Hid (∃ k, k = b.l s) := ⟨_, rfl⟩
      generalize b.l s = key at *
      obtain ⟨S, HSd⟩ : ∃ S : World → Prop, S = fun U => SpAt U B Br Bt fa fc (some ⟨lb, lof, none⟩) lc ga gc qa qc ta tc b ra rc t ∧ U.ownsRow w.heap.size 3 1 (.slice ga2 n gc2) n (G.map (Value.int .i64)) ∧ Below wr.heap.size wr U := ⟨_, rfl⟩
      have KS : Hid (∀ wa wb, S wa → Below wa.heap.size wa wb → S wb) := by subst HSd; exact fun wa wb h b => ⟨h.1.next b, owns_below h.2.1 b (Nat.le_refl _), h.2.2.trans (b.mono h.2.2.size)⟩
      have OS : Hid (∀ wa, S wa → SpAt wa B Br Bt fa fc (some ⟨lb, lof, none⟩) lc ga gc qa qc ta tc b ra rc t ∧ wa.ownsRow w.heap.size 3 1 (.slice ga2 n gc2) n (G.map (Value.int .i64)) ∧ Below wr.heap.size wr wa) := by subst HSd; exact fun wa h => h
      have IS : Hid (S wr.drew) := by subst HSd; exact ⟨A.next (Below.refl _ _).drew, owns_below HO.out (Below.refl wr.heap.size wr).drew (Nat.le_refl _), (Below.refl _ _).drew⟩
      have HGL : Hid (∀ U, U.ownsRow w.heap.size 3 1 (.slice ga2 n gc2) n (G.map (Value.int .i64)) → IntRow U (.slice ga2 n gc2) n (getI G)) := fun U h => by
        have h1 := IntRow.of_list (L := G) (v := .slice ga2 n gc2) (by rw [HN2.out]; exact h) (by have := HGI.out.2.2; omega)
        rw [HN2.out] at h1; exact h1
      clear HSd
      clear A
      go_wp2_with fail
      refine wp_region_held_drew (S := S) (by kernel_rfl) ?_ (fun hHeld => ?_)
      · exact IS.out
      refine wpAnyH_take (i := 0) (v := ?_) rfl (by kernel_rfl) (by kernel_rfl) (by kernel_rfl) (fun _ _ _ h => h) (Or.inl ⟨by rfl, ?_⟩) hHeld ?_
      rotate_left
      · (intro wa hSw; have K := OS.out _ hSw; obtain ⟨q3, q4, q5⟩ := K.1.rules; go_simp; try with_reducible rfl)
      simp only [Act.put, List.getElem_toArray, List.getElem_cons_zero, List.setIfInBounds_toArray, List.set_cons_zero, List.set_cons_succ]
      refine wpAnyH_take (i := 1) (v := ?_) rfl (by kernel_rfl) (by kernel_rfl) (by kernel_rfl) (fun _ _ _ h => h) (Or.inl ⟨by rfl, ?_⟩) hHeld ?_
      rotate_left
      · (intro wa hSw; have K := OS.out _ hSw; obtain ⟨d0, d1, d2, d3, d4, d5, d6, d7, d8, d9⟩ := K.1.cells; go_simp; try with_reducible rfl)
      simp only [Act.put, List.getElem_toArray, List.getElem_cons_zero, List.getElem_cons_succ, List.setIfInBounds_toArray, List.set_cons_zero, List.set_cons_succ]
      refine wpAnyH_take (i := 2) (v := ?_) rfl (by kernel_rfl) (by kernel_rfl) (by kernel_rfl) (fun _ _ _ h => h) (Or.inl ⟨by rfl, ?_⟩) hHeld ?_
      rotate_left
      · (intro wa hSw; go_simp; try with_reducible rfl)
      simp only [Act.put, List.getElem_toArray, List.getElem_cons_zero, List.getElem_cons_succ, List.setIfInBounds_toArray, List.set_cons_zero, List.set_cons_succ]
      refine wpAnyH_take (i := 3) (v := ?_) rfl (by kernel_rfl) (by kernel_rfl) (by kernel_rfl) (fun _ _ _ h => h) (Or.inl ⟨by rfl, ?_⟩) hHeld ?_
      rotate_left
      · (intro wa hSw; go_simp; try with_reducible rfl)
      simp only [Act.put, List.getElem_toArray, List.getElem_cons_zero, List.getElem_cons_succ, List.setIfInBounds_toArray, List.set_cons_zero, List.set_cons_succ]
      refine wpAnyH_ready (rs := [4]) (by kernel_rfl) (by simp) ?_
      refine AllReadyH.cons (o := _) rfl (fun K hK => ?_) AllReadyH.nil
      go_simp
      have KK := OS.out _ hHeld
      refine (CSG.out _ KK.1 (HGL.out _ KK.2.1)).mono ?_
      rintro e w101 ⟨v8, T, rfl, hT, hLL, b101⟩
      have HT := Lib.hid hT
      have HLL := Lib.hid hLL
      obtain ⟨pa, pc, hvf⟩ := owns_form hLL.1
      subst hvf
      have HSZ := Lib.hid (KK.2.2.size)
      clear hT hLL KK
      (try go_wp2_with fail)
      refine hK.out _ _ ?_ (fun hHeld101 => ?_)
      · exact KS.out _ _ hHeld b101
      clear hK K
      refine wpAnyH_ready (rs := [5]) (by kernel_rfl) (by simp) ?_
      refine AllReadyH.cons (o := _) rfl (fun K hK => ?_) AllReadyH.nil
      go_simp
      refine (CPA.out _ _ _ T HLL.out HT.out).mono ?_
      rintro e w102 ⟨⟨pv, pl⟩, hx, hxp, rfl, b102⟩
      dsimp only at hxp
      subst hxp
      have hpo := (HLL.out.below b102 (Nat.le_refl _)).2.1 _ hx
      dsimp only at hpo ⊢
      obtain ⟨ya, yc, hyf⟩ := owns_form hpo
      subst hyf
      have HPO := Lib.hid hpo
      clear hpo hx
      (try go_wp2_with fail)
      refine hK.out _ _ ?_ (fun hHeld102 => ?_)
      · exact KS.out _ _ hHeld101 b102
      clear hK K
      refine wpAnyH_take (i := 6) (v := ?_) rfl (by kernel_rfl) (by kernel_rfl) (by kernel_rfl) (fun _ _ _ h => h) (Or.inl ⟨by rfl, ?_⟩) hHeld102 ?_
      rotate_left
      · (intro wa hSw; go_simp; try with_reducible rfl)
      simp only [Act.put, List.getElem_toArray, List.getElem_cons_zero, List.getElem_cons_succ, List.setIfInBounds_toArray, List.set_cons_zero, List.set_cons_succ]
      refine wpAnyH_done (by kernel_rfl) ?_ _
      have KE2 := Lib.hid (OS.out _ hHeld102)
      clear KS OS IS hHeld hHeld101 hHeld102
      have HPW : Hid (w102.ownsRow W0.heap.size 3 1 (.slice ya pl.length yc) pl.length (pl.map (Value.int .i64))) := owns_mono HPO.out (Nat.le_trans HB.out.size HSZ.out)
      have HK2 : Hid (Kept wn.heap.size (fun k => H ≤ k ∧ k < w.heap.size) w w102) := HK.out.trans (Kept.of_below KE2.out.2.2 (Nat.le_trans HNw.out HK.out.bel.size))
      have HB2 : Hid (Below W0.heap.size W0 w102) := HB.out.trans (KE2.out.2.2.mono HB.out.size)
      clear HB HK HPO HSZ HLL HT CSG CPA HCL r3 r4 r5 cl0
      by_cases hw : pl.length = n
      · have g5 : ((pl.length : Int) == (n : Int)) = true := by simp [hw]
        have g6 : (pl.length == n) = true := by simp [hw]
        have HWQ := Lib.hid hw
        clear hw
        go_wp2_with fail
        go_roundw
        case rel => exact ⟨pre, G, s + 1, W0, ga2, gc2, by rw [HN2.out], by go_num, by omega, by show World.ownsRow _ _ _ _ _ _ _; rw [HN2.out]; exact KE2.out.2.1, HS.out.trans (by rw [HSone.out HWQ.out]), HGI, HJW, HB2, HK2⟩
        case measure => simp only [RowKit.intOf, lenV]; have := HM1.out; exact this
      · have g5 : ((pl.length : Int) == (n : Int)) = false := by rw [beq_eq_false_iff_ne]; omega
        have g6 : (pl.length == n) = false := by rw [beq_eq_false_iff_ne]; exact hw
        have HWQ := Lib.hid hw
        clear hw
        go_upto_region 6 with fail
        refine (wpIn_wide (n := dp)).1 ?_
        have hgo : w102.ownsRow w.heap.size 3 1 (.slice ga2 n gc2) G.length (G.map (Value.int .i64)) := by rw [HN2.out]; exact KE2.out.2.1
        obtain ⟨fn, tmps, assign, body, hy, hR⟩ := HY.out pre (SepX.mk key (.slice ga2 n gc2) G (.slice ya pl.length yc) pl) W0 w102 HJW.out.1 HB2.out ⟨⟨sepP b t pl nx, HS.out.trans (by rw [HSon.out HWQ.out]; rfl)⟩, hgo, HPW.out, HJW.out.2⟩
        (try dsimp only [encX] at hy)
        clear hgo
        gi_wp2
        refine hR.mono ?_
        rintro e W' (⟨rfl, hJ', hk⟩ | ⟨rfl, hJx'⟩)
        · have HK3 : Hid (Kept wn.heap.size (fun k => H ≤ k ∧ k < w.heap.size) w W') := HK2.out.trans ⟨hk.bel, fun k hk' hl => hk.blk k (.inl hk') hl⟩
          have HP3 : Hid (W'.ownsRow w.heap.size 3 1 (.slice ya pl.length yc) pl.length (pl.map (Value.int .i64))) := owns_same (owns_mono HPW.out HJW.out.2) hk.bel.size (fun q hq => hk.blk q (.inr hq) (HPW.out.lt q hq).2)
          have HJ3 : Hid (J (pre ++ [SepX.mk key (.slice ga2 n gc2) G (.slice ya pl.length yc) pl]) W' ∧ w.heap.size ≤ W'.heap.size) := ⟨hJ', HK3.out.bel.size⟩
          obtain ⟨r3, r4, r5⟩ := (KE.out _ HK3.out).rules
          have HGP : Hid ((∀ u ∈ pl, 0 ≤ u ∧ u < (b.nf : Int)) ∧ t ∈ pl ∧ pl.length ≤ 8) := ⟨fun u hu => HGI.out.1 u (HPL.out.2.1 u hu), HPL.out.2.2.1, by have := HPL.out.1; omega⟩
          have HL3 : Hid (sepAll b t = (pre ++ [SepX.mk key (.slice ga2 n gc2) G (.slice ya pl.length yc) pl]).map SepX.dat ++ sepP b t pl nx) := HS.out.trans (by rw [HSon.out HWQ.out, List.map_append, List.append_assoc]; rfl)
          have HPq := Lib.hid (HPL.out.2.2.2 HWQ.out)
          clear hk hJ' hy hR HY HSone HSon HPL HWQ HM1 g1 g2 g3 g4 g5 g6
          obtain ⟨ag, hag⟩ : ∃ ag, b.again = ag := ⟨_, rfl⟩
          rw [hag] at r4 HNX
          have HN0 : Hid (nx = if ag = true ∧ mu = true then 0 else s + 1) := by
            have h9 := HNX.out
            show _ = _
            rw [h9]
            have h1 := HPq.out
            simp [h1]
          clear HNX hag
          cases ag with
          | false =>
            obtain rfl : nx = s + 1 := by have := HN0.out; simpa using this
            clear HN0
            gi_wp2
            go_wp2
            go_roundw
            case rel => exact ⟨pre ++ [SepX.mk key (.slice ga2 n gc2) G (.slice ya pl.length yc) pl], pl, s + 1, W', ya, yc, rfl, by go_num, by omega, HP3.out, HL3.out, HGP.out, HJ3.out, Below.refl _ _, HK3.out⟩
            case measure => simp only [RowKit.intOf, lenV]; have := HM2.out; exact this
          | true =>
            cases mu with
            | false =>
              obtain rfl : nx = s + 1 := by have := HN0.out; simpa using this
              clear HN0
              gi_wp2
              go_wp2_with (go_at_call 86; refine (CMU.out _).mono ?_; rintro e w2 ⟨rfl, hw2⟩; subst hw2)
              go_roundw
              case rel => exact ⟨pre ++ [SepX.mk key (.slice ga2 n gc2) G (.slice ya pl.length yc) pl], pl, s + 1, W', ya, yc, rfl, by go_num, by omega, HP3.out, HL3.out, HGP.out, HJ3.out, Below.refl _ _, HK3.out⟩
              case measure => simp only [RowKit.intOf, lenV]; have := HM2.out; exact this
            | true =>
              obtain rfl : nx = 0 := by have := HN0.out; simpa using this
              clear HN0
              gi_wp2
              go_wp2_with (go_at_call 86; refine (CMU.out _).mono ?_; rintro e w2 ⟨rfl, hw2⟩; subst hw2)
              go_roundw
              case rel => exact ⟨pre ++ [SepX.mk key (.slice ga2 n gc2) G (.slice ya pl.length yc) pl], pl, 0, W', ya, yc, rfl, rfl, by omega, HP3.out, HL3.out, HGP.out, HJ3.out, Below.refl _ _, HK3.out⟩
              case measure => simp only [RowKit.intOf, lenV]; have := HM2.out; exact this
        · have HF : Hid ((∃ xs, SX b t xs ∧ J xs W') ∨ ∃ pre, SpX b t pre ∧ Jx pre W') := .inr ⟨pre ++ [SepX.mk key (.slice ga2 n gc2) G (.slice ya pl.length yc) pl], ⟨sepP b t pl nx, HS.out.trans (by rw [HSon.out HWQ.out, List.map_append, List.append_assoc]; rfl)⟩, hJx'⟩
          clear hJx' hy hR
          gi_wp2
          go_wp2
          refine bodyPost_ret (results_none rfl _ _ _) rfl ?_
          exact ⟨⟨_, rfl⟩, HF.out⟩
end Go.Proofs.YteciobkjfmddcaaGreat
