/-
  Packed: SplitImpl, RankRec.
-/
import Derived.Test.YteciobkjfmddcaaGreatDoorQ6
import Derived.Test.YteciobkjfmddcaaGreatDoorQ14
set_option linter.unusedVariables false
namespace Go.Proofs.YteciobkjfmddcaaGreatDoor
open Go.RowKit Go.Maps

def fit64 (x : Int) : Prop := -9223372036854775808 ≤ x ∧ x ≤ 9223372036854775807
theorem fit64_wrap (x : Int) : fit64 (wrap64 x) := by unfold fit64 wrap64; omega
def rowFit (r : RowD) : Prop := fit64 r.wins ∧ fit64 r.scored ∧ fit64 r.points
theorem rowFit_zero : rowFit zeroR := ⟨by unfold fit64 zeroR; simp, by unfold fit64 zeroR; simp, by unfold fit64 zeroR; simp⟩
theorem rowFit_add (a b : RowD) : rowFit (addW a b) := ⟨fit64_wrap _, fit64_wrap _, fit64_wrap _⟩
theorem rowFit_put {r : Nat → RowD} {x : RowD} {t : Nat} (h : ∀ i, rowFit (r i)) (hx : rowFit x) : ∀ i, rowFit (putR r t x i) := fun i => by
  unfold putR; split
  · exact hx
  · exact h i
theorem tabFit (win draw loss : Int) (sel : GameD → Bool) (g : Nat → GameD) : ∀ k i, rowFit (tabR win draw loss sel g k i)
  | 0, _ => rowFit_zero
  | k + 1, i => by
    have ih := tabFit win draw loss sel g k
    unfold tabR
    split
    · unfold addG
      split
      · exact rowFit_put (rowFit_put ih (rowFit_add _ _)) (rowFit_add _ _) i
      · exact ih i
    · exact ih i
theorem valFit (b : BookD) (key : Int) (gg : Nat → Int) (ng i : Nat) : fit64 (bookV b key gg ng i) := by
  have h := tabFit b.win b.draw b.loss (selG (!mutualB key) gg ng) b.g b.m i
  unfold bookV valD
  have h2 : rowFit (bookT b key gg ng i) := tabFit _ _ _ _ _ _ _
  repeat' split
  · exact fit64_wrap _
  · exact h2.2.2
  · exact fit64_wrap _
  · exact h2.2.1
  · exact h2.1
  · exact fit64_wrap _
  · exact fit64_wrap _
  · unfold fit64; omega
theorem zSliceV (w : World) : (zeroValue 24).run Tryz.prog w = .ok (.slice none 0 0) w := by kernel_rfl
theorem ll_of_groups {w6 w' : World} {D B m k : Nat} {T : List (Int × Value × List Int)} {ov : Value} (hG : GroupSt w6 B m k T) (hov : w'.ownsRow w6.heap.size 24 1 ov T.length ((T.take T.length).map fun x => x.2.1)) (hb : Below w6.heap.size w6 w') (hB : D ≤ B) (h6 : D ≤ w6.heap.size) : LL w' D ov (T.map Prod.snd) := by
  rw [List.take_length] at hov
  refine ⟨?_, fun y hy => ?_, ?_⟩
  · rw [List.length_map, List.map_map]
    exact owns_mono hov h6
  · obtain ⟨x, hx, rfl⟩ := List.mem_map.1 hy
    exact owns_mono (owns_below (hG.1 x hx) hb (Nat.le_refl _)) hB
  · rw [List.map_map]
    refine List.pairwise_cons.2 ⟨fun u hu => ?_, hG.2.1⟩
    obtain ⟨x, hx, rfl⟩ := List.mem_map.1 hu
    intro q hq e2
    have a1 := (hov.lt q hq).1
    have a2 := (hG.1.lt hx e2).2
    omega
theorem datT_snd (T : List (Int × Value × List Int)) : (T.map Prod.snd).map Prod.snd = (datT T).map Prod.snd := by unfold datT; simp [List.map_map, Function.comp_def]

set_option maxRecDepth 100000 in
set_option maxHeartbeats 4000000 in
theorem split_impl (fa : Option Addr) (fc : Nat) (la : Option Addr) (lc : Nat) (ga : Option Addr) (gc : Nat) (qa : Option Addr) (qc : Nat) (ta : Option Addr) (tc : Nat) (b : BookD) (ra : Option Addr) (rc : Nat) (key : Int) (gv : Value) (ng : Nat) (gg : Nat → Int) (w : World) (hp : bookP b) (h : BookRow w (.slice fa b.nf fc) (.slice la b.nl lc) (.slice ga b.m gc) (.slice qa b.nfa qc) (.slice ta b.nta tc) b) (ht : RowRow w (.slice ra b.nf rc) b.nf (tabAll b)) (hgv : IntRow w gv ng gg) (hteams : teamsP b.nf ng gg) (hn6 : ng ≤ 1048576) :
    Calls Tryz.prog 43 #[.agg #[.slice fa b.nf fc, .int .i64 b.win, .int .i64 b.draw, .int .i64 b.loss, .slice la b.nl lc, .bool b.again, .slice ga b.m gc, .slice qa b.nfa qc, .slice ta b.nta tc, .slice ra b.nf rc], .int .i64 key, gv] w (ListsL w ((splitP (bookV b key gg ng) gg ng).map Prod.snd)) := by
  obtain ⟨i0, hi, hz0, hz1, hz2⟩ := info_parts Tryz.infoI
  obtain ⟨i1, hi1, hy0, hy1, hy2⟩ := info_parts Tryz.infoL
  have hsix := h.sixty
  have K0 := Lib.hid (JgAt.made h ht 52)
  have HG := Lib.hid hgv
  have HTM := Lib.hid hteams
  obtain ⟨xa, xc, rfl, hx64, _⟩ := hgv.form
  have C1 := Lib.hid (fun wa h1 h2 h3 => valueBy_impl fa fc la lc ga gc qa qc ta tc b ra rc key (.slice xa ng xc) ng gg wa hp h1 h2 h3)
  have HF := Lib.hid (valFit b key gg ng)
  obtain ⟨V, hV⟩ : ∃ V, bookV b key gg ng = V := ⟨_, rfl⟩
  rw [hV] at C1 HF
  rw [hV]
  have hmm := @run_makeMap Tryz.prog
  clear h ht hgv hteams hV
  obtain ⟨d0, d1, d2, d3, d4, d5, d6, d7, d8, d9⟩ := K0.out.cells
  go_enter Tryz.func43, Tryz.ntmps43
  go_wp2_with fail
  refine (C1.out _ K0.out.row K0.out.tab (HG.out.below K0.out.bel (Nat.le_refl _))).mono ?_
  rintro e w4 ⟨fv, rfl, hfv, b4⟩
  have HB4 := Lib.hid (K0.out.bel.trans (b4.mono K0.out.bel.size))
  have HB4s := Lib.hid HB4.out.size
  obtain ⟨fN, bd, _, rfl, hen, hca⟩ := hfv
  have HEN := Lib.hid hen
  have HCA := Lib.hid hca
  clear d0 d1 d2 d3 d4 d5 d6 d7 d8 d9 b4 K0 hen hca C1
  go_wp2
  go_loopw [22] (fun i wr => ∃ (k : Nat) (T : List (Int × Value × List Int)), k ≤ ng ∧ i = .int .i64 k ∧ Hid (datT T = splitP V gg k) ∧ Hid (GroupSt wr (w4.heap.size + 1) w4.heap.size k T) ∧ Hid (Below w4.heap.size w4 wr)) (fun i _ => ng - (RowKit.intOf i).toNat)
  case atStart => exact ⟨0, [], Nat.zero_le _, rfl, rfl, GroupSt.made w4 0, (Below.refl _ _).alloc (Nat.le_refl _) _⟩
  case round =>
    obtain ⟨k, T, hk, rfl, HD, HGS, HB⟩ := hrel
    by_cases hlt : k < ng
    · have hIR := HG.out.below (HB4.out.trans (HB.out.mono HB4.out.size)) (Nat.le_refl _)
      obtain ⟨bo, off, rfl, hcap, c1⟩ := int_at hIR hlt
      obtain ⟨tn, htn⟩ : ∃ tn : Nat, gg k = (tn : Int) := ⟨(gg k).toNat, by have := HTM.out k hlt; omega⟩
      have htl : tn < b.nf := by have := HTM.out k hlt; omega
      rw [htn] at c1
      have hrun0 := HEN.out (bd.push (.int .i64 (tn : Int))) wr
      have hcl := HCA.out tn wr htl HB.out
      have HSP : Hid (splitP V gg (k + 1) = insP (V tn) tn (splitP V gg k)) := by show insP (V (gg k).toNat) (gg k) _ = _; rw [htn]; rfl
      have hft := HF.out tn
      obtain ⟨v, hv⟩ : ∃ v, V tn = v := ⟨_, rfl⟩
      rw [hv] at hcl HSP hft
      have HCL := Lib.hid hcl
      have HKY : Hid (keyOf Tryz.prog 3 (.int .i64 v) = some (.int .i64 v)) := keyOf_int_mk Tryz.underlying3 (WalkArith.wf_i64 (by unfold fit64 at hft; omega))
      clear hIR htn hv hcl hft htl
      go_wp2_with fail
      refine HCL.out.mono ?_
      rintro e w5 ⟨rfl, b5⟩
      have HGS5 := Lib.hid (HGS.out.below b5)
      have HB5 := Lib.hid (HB.out.trans (b5.mono HB.out.size))
      obtain ⟨iv, p, T', hst⟩ := StepT.ex HD.out HGS5.out.1 HGS5.out.2.1 v (tn : Int)
      have HST := Lib.hid hst
      have hlen := hst.len
      have hmlt := HGS5.out.2.2.1.lt
      have hBsz : w4.heap.size + 1 ≤ w5.heap.size := by omega
      have hrun := HGS5.out.2.2.1.run kInt Tryz.underlying107 (zSliceV w5) HKY.out
      rw [hst.look] at hrun
      clear hst b5 HGS HB HCL hrun0 c1
      go_wp2_with (first
        | (at_builtin; refine wpList_pushL rfl (.tmp 33) (.tmp 35) 24 rfl (w4.heap.size + 1) 3 Tryz.underlying24 hi hz0 hz1 hz2 rfl (by decide) [.int .i64 (tn : Int)] rfl (by intro u hu; simp at hu; subst hu; rfl) rfl (by first | rfl | (show Value.slice (some ⟨_, 0, none⟩) 1 1 = _; simp)) HST.out.own (by unfold maxLen; omega) (by omega) hBsz ?_; intro g6 c6 w6 o6 gr6 at6 lt6; have HM6 := Lib.hid (HGS5.out.kept HST.out.own gr6); have HO6 := Lib.hid o6; have HG6 := Lib.hid gr6; have HA6 := Lib.hid at6; clear o6 gr6 at6 hrun)
        | (at_mapUpdate; refine wpList_valPut rfl (.tmp 29) (.tmp 30) (.tmp 36) 107 rfl 3 24 kInt Tryz.underlying107 w4.heap.size k _ _ rfl HM6.out (by unfold maxLen; omega) _ _ (.int .i64 v) rfl rfl HKY.out trivial (HST.out.self _) (HST.out.other _) ?_; intro w7 m7 g7))
      have HGS7 := Lib.hid (GroupSt.step HGS5.out HST.out HG6.out HO6.out HA6.out g7 m7)
      have HB7 := Lib.hid ((HB5.out.grown HG6.out HB5.out.size (fun q hq => by have := (HST.out.own.lt q hq).1; omega)).grown g7 (Nat.le_trans HB5.out.size HG6.out.size) (fun q hq => by cases hq; exact Nat.le_refl _))
      clear g7 m7 HGS5 HB5 HO6 HG6 HA6 HM6
      go_roundw
      case rel => exact ⟨k + 1, _, by omega, by go_num, by show datT _ = _; rw [HSP.out, ← HD.out]; exact HST.out.dat _, HGS7, HB7⟩
      case measure => simp [RowKit.intOf]; omega
    · obtain rfl : ng = k := by omega
      have hlenT : T.length ≤ ng := by
        have h1 := split_len (V := V) (gg := gg) ng
        rw [← HD.out] at h1
        unfold datT at h1
        simpa using h1
      have HDS := Lib.hid (datT_desc HD.out)
      have HBA := Lib.hid (HB4.out.trans (HB.out.mono HB4.out.size))
      have HFT : Hid (∀ x ∈ T, fit64 x.1) := fun x hx => by
        have hxs : (x.1, x.2.2) ∈ splitP V gg ng := by rw [← HD.out]; exact List.mem_map.2 ⟨x, hx, rfl⟩
        have hne := splitP_ne (V := V) (gg := gg) ng _ hxs
        obtain ⟨u, hu⟩ := List.exists_mem_of_ne_nil _ hne
        have := splitP_val V gg ng _ hxs u hu
        rw [← this]; exact HF.out _
      have HMK : Hid (∀ s, (∃ u, findT T (.int .i64 s) = some u) ↔ s ∈ T.map Prod.fst) := fun s => by
        show (∃ u, findI T s = some u) ↔ _
        rw [List.mem_map]
        constructor
        · rintro ⟨u, hu⟩
          obtain ⟨x, hx, h1, _⟩ := (findI_iff HDS.out).1 hu
          exact ⟨x, hx, h1⟩
        · rintro ⟨x, hx, h1⟩
          exact ⟨_, (findI_iff HDS.out).2 ⟨x, hx, h1, rfl⟩⟩
      clear HEN HCA HG HTM
      go_wp2_with fail
      refine (keysI_impl (some w4.heap.size) wr).mono ?_
      rintro e w5 ⟨rfl, hw5⟩
      subst hw5
      go_wp2_with fail
      refine (sortedDesc_impl w4.heap.size ng (findT T) wr HGS.out.2.2.1 (fun _ _ => findT_key) hn6).mono ?_
      rintro e w6 ⟨v6, L, rfl, hL1, hL2, hO6, hL3, b6⟩
      obtain rfl : L = T.map Prod.fst := desc_unique _ _ hL1 (by rw [List.pairwise_map]; exact HDS.out) (fun s => by rw [hL2, HMK.out])
      rw [List.length_map] at hO6
      have HGS6 := Lib.hid ((HGS.out.below ((Below.refl _ _).alloc (Nat.le_refl _) _)).below b6)
      have HO6 := Lib.hid hO6
      have HB6 := Lib.hid (HBA.out.trans (((Below.refl wr.heap.size wr).alloc (Nat.le_refl _) _).mono HBA.out.size) |>.trans (b6.mono (by have := HBA.out.size; simp; omega)))
      obtain ⟨sa, sc, rfl⟩ : ∃ sa sc, v6 = .slice sa T.length sc := by
        obtain ⟨pa, pc, h6⟩ := owns_form hO6
        exact ⟨pa, pc, h6⟩
      clear hL1 hL2 hL3 hO6 b6 HGS HB HBA HB4
      go_wp2
      go_loopw [12, 42] (fun ov i w' => ∃ k : Nat, k ≤ T.length ∧ i = .int .i64 k ∧ Hid (w'.ownsRow w6.heap.size 24 1 ov k ((T.take k).map fun x => x.2.1)) ∧ Hid (Below w6.heap.size w6 w')) (fun _ i _ => T.length - (RowKit.intOf i).toNat)
      case atStart => exact ⟨0, Nat.zero_le _, rfl, World.ownsRow_nil _ _ _ _, Below.refl _ _⟩
      case round =>
        obtain ⟨k, hk2, rfl, HOV, HBW⟩ := hrel
        by_cases hlt2 : k < T.length
        · obtain ⟨x, hx⟩ : ∃ x, T[k]? = some x := ⟨_, List.getElem?_eq_getElem hlt2⟩
          have hxm : x ∈ T := List.mem_iff_getElem?.2 ⟨k, hx⟩
          obtain ⟨g8, c8, h8, hc8, _, e8⟩ := ints_at (owns_below HO6.out HBW.out (Nat.le_refl _)) (j := k) (x := x.1) (by rw [List.getElem?_map, hx]; rfl)
          simp only [Value.slice.injEq, true_and] at h8
          obtain ⟨rfl, rfl⟩ := h8
          have hfx := HFT.out x hxm
          have hrun := (HGS6.out.2.2.1.below HBW.out (Nat.le_refl _)).run kInt Tryz.underlying107 (zSliceV _) (key := .int .i64 x.1) (kl := .int .i64 x.1) (keyOf_int_mk Tryz.underlying3 (WalkArith.wf_i64 (by unfold fit64 at hfx; omega)))
          rw [show findT T (.int .i64 x.1) = some x.2.1 from (findI_iff HDS.out).2 ⟨x, hxm, rfl, rfl⟩] at hrun
          simp only [Option.getD_some] at hrun
          obtain ⟨ya, yc, hxv⟩ := owns_form (HGS6.out.1 x hxm)
          have HTK : Hid ((T.take (k + 1)).map (fun x => x.2.1) = (T.take k).map (fun x => x.2.1) ++ [x.2.1]) := by
            show _ = _
            rw [List.take_add_one, hx, List.map_append]
            rfl
          have hszw := HBW.out.size
          clear hfx hxm hx
          obtain ⟨xs1, hxs1⟩ : ∃ s, x.1 = s := ⟨_, rfl⟩
          obtain ⟨yn, hyn⟩ : ∃ s, x.2.2.length = s := ⟨_, rfl⟩
          rw [hyn] at hxv
          rw [hxs1] at e8 hrun
          rw [hxv] at hrun HTK
          clear hxs1 hxv hyn
          go_wp2_with (at_builtin; refine wpList_pushL rfl (.tmp 46) (.tmp 50) 46 rfl w6.heap.size 24 Tryz.underlying46 hi1 hy0 hy1 hy2 rfl (by decide) [.slice ya yn yc] rfl (by intro u hu; simp at hu; subst hu; rfl) rfl (by first | rfl | (show Value.slice (some ⟨_, 0, none⟩) 1 1 = _; simp)) HOV.out (by unfold maxLen; omega) (by omega) hszw ?_; intro g9 c9 w9 o9 gr9 at9 lt9; have HO9 := Lib.hid o9; have HB9 := Lib.hid (HBW.out.grown gr9 HBW.out.size (fun q hq => (HOV.out.lt q hq).1)); clear o9 gr9 at9 hrun)
          go_roundw
          case rel => exact ⟨k + 1, by omega, by go_num, by show World.ownsRow _ _ _ _ _ _ _; rw [HTK.out]; exact HO9.out, HB9⟩
          case measure => simp [RowKit.intOf]; omega
        · obtain rfl : k = T.length := by omega
          have HLL := Lib.hid (ll_of_groups (D := w.heap.size) HGS6.out HOV.out HBW.out (by have := HB4s.out; omega) HB6.out.size)
          have HE := Lib.hid (HB6.out.trans (HBW.out.mono HB6.out.size))
          have HDD : Hid ((T.map Prod.snd).map Prod.snd = (splitP V gg ng).map Prod.snd) := by show _ = _; rw [datT_snd, HD.out]
          clear HOV HBW HGS6 HB6 HO6
          go_wp2
          go_ret
          exact ⟨_, T.map Prod.snd, rfl, HDD.out, HLL.out, HE.out⟩

end Go.Proofs.YteciobkjfmddcaaGreatDoor
set_option linter.unusedVariables false
namespace Go.Proofs.YteciobkjfmddcaaGreatDoor
open Go.RowKit

def RankedL (w : World) (D : Nat) (gv : Value) (L : List (List Int)) (e : Ending) (w' : World) : Prop :=
  ∃ (v : Value) (T : List (Value × List Int)), e = .returned v ∧ T.map Prod.snd = L ∧ w'.ownsRow w.heap.size 24 1 v T.length (T.map Prod.fst) ∧ (∀ x ∈ T, w'.ownsRow D 3 1 x.1 x.2.length (x.2.map (Value.int .i64))) ∧ ApartL (v :: T.map Prod.fst) ∧
    (∀ x ∈ T, ∀ q, x.1.ownBlock = some q → gv.ownBlock = some q ∨ w.heap.size ≤ q) ∧ Below w.heap.size w w'
structure RankSt (w6 wr : World) (D : Nat) (T0 : List (Value × List Int)) (k : Nat) (ov : Value) (R : List (Value × List Int)) : Prop where
  outer : wr.ownsRow w6.heap.size 24 1 ov R.length (R.map Prod.fst)
  inner : ∀ x ∈ R, wr.ownsRow D 3 1 x.1 x.2.length (x.2.map (Value.int .i64))
  apart : ApartL (R.map Prod.fst)
  src : ∀ x ∈ R, ∀ q, x.1.ownBlock = some q → (∃ y ∈ T0.take k, y.1.ownBlock = some q) ∨ (w6.heap.size ≤ q ∧ ov.ownBlock ≠ some q)
  bel : Below w6.heap.size w6 wr
theorem RankSt.start (w6 : World) (D : Nat) (T0 : List (Value × List Int)) : RankSt w6 w6 D T0 0 (.slice none 0 0) [] :=
  ⟨World.ownsRow_nil _ _ _ _, fun x hx => (by cases hx), List.Pairwise.nil, fun x hx => (by cases hx), Below.refl _ _⟩
theorem mem_take_at {α : Type} {L : List α} {k : Nat} {x : α} (h : L[k]? = some x) : x ∈ L.take (k + 1) := List.mem_iff_getElem?.2 ⟨k, by rw [List.getElem?_take_of_lt (by omega)]; exact h⟩
theorem mem_take_more {α : Type} {L : List α} {k : Nat} {x : α} (h : x ∈ L.take k) : x ∈ L.take (k + 1) := by
  rw [List.take_add_one]
  exact List.mem_append_left _ h
theorem RankSt.step {w6 wr w7 w8 : World} {B D k : Nat} {T0 R T1 : List (Value × List Int)} {v0 ov v1 ov' : Value} {y : Value × List Int} {L : List (List Int)} (h : RankSt w6 wr D T0 k ov R)
    (h0 : LL w6 B v0 T0) (hy : T0[k]? = some y) (h1 : w7.ownsRow wr.heap.size 24 1 v1 T1.length (T1.map Prod.fst)) (h2 : ∀ x ∈ T1, w7.ownsRow D 3 1 x.1 x.2.length (x.2.map (Value.int .i64))) (h3 : ApartL (v1 :: T1.map Prod.fst))
    (h4 : ∀ x ∈ T1, ∀ q, x.1.ownBlock = some q → y.1.ownBlock = some q ∨ wr.heap.size ≤ q) (hb : Below wr.heap.size wr w7)
    (ho : w8.ownsRow w6.heap.size 24 1 ov' (R.length + T1.length) (R.map Prod.fst ++ T1.map Prod.fst)) (hg : w7.grownBy w8 ov.ownBlock) (hat : ∀ q, ov'.ownBlock = some q → ov.ownBlock = some q ∨ w7.heap.size ≤ q) :
    RankSt w6 w8 D T0 (k + 1) ov' (R ++ T1) := by
  have hyT : y ∈ T0 := List.mem_iff_getElem?.2 ⟨k, hy⟩
  have hsz6 := h.bel.size
  have hsz7 := hb.size
  have ovb : ∀ q, ov.ownBlock = some q → w6.heap.size ≤ q ∧ q < wr.heap.size := fun q hq => h.outer.lt q hq
  have t0b : ∀ z ∈ T0, ∀ q, z.1.ownBlock = some q → q < w6.heap.size := fun z hz q hq => ((h0.2.1 z hz).lt q hq).2
  have rb : ∀ x ∈ R, ∀ q, x.1.ownBlock = some q → q < wr.heap.size := fun x hx q hq => ((h.inner x hx).lt q hq).2
  have rne : ∀ x ∈ R, ∀ q, x.1.ownBlock = some q → ov.ownBlock ≠ some q := fun x hx q hq e => by
    rcases h.src x hx q hq with ⟨z, hz, hzq⟩ | ⟨_, hne⟩
    · have := t0b z (List.mem_of_mem_take hz) q hzq
      have := (ovb q e).1
      omega
    · exact hne e
  have tne : ∀ x ∈ T1, ∀ q, x.1.ownBlock = some q → ov.ownBlock ≠ some q := fun x hx q hq e => by
    have := ovb q e
    rcases h4 x hx q hq with h5 | h5
    · have := t0b y hyT q h5; omega
    · omega
  refine ⟨by rw [List.length_append, List.map_append]; exact ho, fun x hx => ?_, ?_, fun x hx q hq => ?_, (h.bel.trans (hb.mono hsz6)).grown hg (by omega) (fun q hq => (ovb q hq).1)⟩
  · rcases List.mem_append.1 hx with hx | hx
    · refine (owns_below (h.inner x hx) hb (Nat.le_refl _)).kept hg ?_
      cases hk : x.1.ownBlock with
      | none => exact .inl rfl
      | some q => exact .inr fun e => rne x hx q hk e.symm
    · refine (h2 x hx).kept hg ?_
      cases hk : x.1.ownBlock with
      | none => exact .inl rfl
      | some q => exact .inr fun e => tne x hx q hk e.symm
  · rw [List.map_append]
    refine List.pairwise_append.2 ⟨h.apart, (List.pairwise_cons.1 h3).2, fun a ha b hb2 => ?_⟩
    obtain ⟨x, hx, rfl⟩ := List.mem_map.1 ha
    obtain ⟨z, hz, rfl⟩ := List.mem_map.1 hb2
    intro q hq e
    have hqr := rb x hx q hq
    rcases h4 z hz q e with h5 | h5
    · have hy6 := t0b y hyT q h5
      rcases h.src x hx q hq with ⟨u, hu, huq⟩ | ⟨h6, _⟩
      · obtain ⟨j, hj⟩ := List.mem_iff_getElem?.1 hu
        have hjk : j < k := by
          have := (List.getElem?_eq_some_iff.1 hj).1
          rw [List.length_take] at this
          omega
        rw [List.getElem?_take_of_lt hjk] at hj
        exact pairwise_at (fun a b h => h.symm) _ j k u.1 y.1 (List.pairwise_cons.1 h0.2.2).2 (by rw [List.getElem?_map, hj]; rfl) (by rw [List.getElem?_map, hy]; rfl) (by omega) q huq h5
      · omega
    · omega
  · rcases List.mem_append.1 hx with hx | hx
    · rcases h.src x hx q hq with ⟨u, hu, huq⟩ | ⟨h6, h7⟩
      · exact .inl ⟨u, mem_take_more hu, huq⟩
      · refine .inr ⟨h6, fun e => ?_⟩
        rcases hat q e with h8 | h8
        · exact h7 h8
        · have := rb x hx q hq; omega
    · rcases h4 x hx q hq with h5 | h5
      · exact .inl ⟨y, mem_take_at hy, h5⟩
      · refine .inr ⟨by omega, fun e => ?_⟩
        rcases hat q e with h8 | h8
        · have := (ovb q h8).2; omega
        · have := ((h2 x hx).lt q hq).2; omega
theorem RankSt.done {w w6 wr : World} {D : Nat} {T0 R : List (Value × List Int)} {v0 ov gv : Value} (h : RankSt w6 wr w.heap.size T0 T0.length ov R) (h0 : LL w6 w.heap.size v0 T0) (hb : Below w.heap.size w w6) (hD : D ≤ w.heap.size) :
    RankedL w D gv (R.map Prod.snd) (.returned ov) wr := by
  have hsz := hb.size
  refine ⟨ov, R, rfl, rfl, owns_mono h.outer hsz, fun x hx => owns_mono (h.inner x hx) hD, List.pairwise_cons.2 ⟨fun z hz => ?_, h.apart⟩, fun x hx q hq => ?_, hb.trans (h.bel.mono hsz)⟩
  · obtain ⟨x, hx, rfl⟩ := List.mem_map.1 hz
    intro q hq e
    rcases h.src x hx q e with ⟨u, hu, huq⟩ | ⟨_, h7⟩
    · have := ((h0.2.1 u (List.mem_of_mem_take hu)).lt q huq).2
      have := (h.outer.lt q hq).1
      omega
    · exact h7 hq
  · rcases h.src x hx q hq with ⟨u, hu, huq⟩ | ⟨h6, _⟩
    · exact .inr ((h0.2.1 u (List.mem_of_mem_take hu)).lt q huq).1
    · exact .inr (by omega)
theorem RankedL.one {w w1 : World} {D B : Nat} {gv : Value} {G : List Int} (ho : w1.ownsRow D 3 1 gv G.length (G.map (Value.int .i64))) (hb : Below w.heap.size w w1) (hB : w1.heap.size = B) (hD : D ≤ w.heap.size) :
    RankedL w D gv [G] (.returned (.slice (some ⟨B, 0, none⟩) 1 1)) (w1.alloc (.cells #[gv] 24)) := by
  subst hB
  have HLL := LL.one (B := D) ho (Nat.le_trans hD hb.size)
  refine ⟨_, [(gv, G)], rfl, rfl, ⟨HLL.1.1, ?_⟩, HLL.2.1, HLL.2.2, fun x hx q hq => ?_, hb.alloc hb.size _⟩
  · rcases HLL.1.2 with ⟨h', hh⟩ | ⟨g', cap', cur, h', h2, h3⟩
    · simp at h'
    · refine .inr ⟨g', cap', cur, h', ?_, h3⟩
      simp only [Value.slice.injEq, Option.some.injEq, Addr.mk.injEq, and_true] at h'
      have := hb.size
      omega
  · simp only [List.mem_singleton] at hx
    subst hx
    exact .inl hq
theorem RankedL.lists {w : World} {D : Nat} {gv : Value} {L : List (List Int)} {e : Ending} {w' : World} (h : RankedL w D gv L e w') (hD : D ≤ w.heap.size) : ∃ v T, e = .returned v ∧ T.map Prod.snd = L ∧ LL w' D v T ∧ Below w.heap.size w w' := by
  obtain ⟨v, T, h1, h2, h3, h4, h5, h6, h7⟩ := h
  exact ⟨v, T, h1, h2, ⟨owns_mono h3 hD, h4, h5⟩, h7⟩

set_option maxRecDepth 100000 in
set_option maxHeartbeats 4000000 in
theorem rank_impl (fa : Option Addr) (fc : Nat) (la : Option Addr) (lc : Nat) (ga : Option Addr) (gc : Nat) (qa : Option Addr) (qc : Nat) (ta : Option Addr) (tc : Nat) (b : BookD) (ra : Option Addr) (rc : Nat) (hp : bookP b) : ∀ (m : Nat) (G : List Int) (s : Nat) (gv : Value) (D : Nat) (w : World), rankM b.nl G.length s < m → BookRow w (.slice fa b.nf fc) (.slice la b.nl lc) (.slice ga b.m gc) (.slice qa b.nfa qc) (.slice ta b.nta tc) b → RowRow w (.slice ra b.nf rc) b.nf (tabAll b) → w.ownsRow D 3 1 gv G.length (G.map (Value.int .i64)) → teamsP b.nf G.length (getI G) → G.length ≤ 1048576 → (s : Int) ≤ 9223372036854775807 →
    Calls Tryz.prog 62 #[.agg #[.slice fa b.nf fc, .int .i64 b.win, .int .i64 b.draw, .int .i64 b.loss, .slice la b.nl lc, .bool b.again, .slice ga b.m gc, .slice qa b.nfa qc, .slice ta b.nta tc, .slice ra b.nf rc], gv, .int .i64 s] w (RankedL w D gv (rankP b G s)) := by
  intro m
  induction m with
  | zero => intro G s gv D w hm; exact absurd hm (Nat.not_lt_zero _)
  | succ m IH =>
  intro G s gv D w hm h htab hown ht hn6 hs63
  obtain ⟨l0, li, lz0, lz1, lz2⟩ := info_parts Tryz.infoL
  have hrow : IntRow w gv G.length (getI G) := IntRow.of_list hown (by omega)
  obtain ⟨xa, xc, rfl, hx64, _⟩ := hrow.form
  have hsix := h.sixty
  by_cases h0 : G = []
  · subst h0
    rw [rankP_nil]
    have K0 := Lib.hid (JgAt.made h htab 52)
    obtain ⟨d0, d1, d2, d3, d4, d5, d6, d7, d8, d9⟩ := K0.out.cells
    have HB := Lib.hid K0.out.bel
    simp only [List.length_nil]
    clear h htab hrow hown ht K0
    go_enter Tryz.func62, Tryz.ntmps62
    go_wp2
    go_ret
    exact ⟨_, [], rfl, rfl, World.ownsRow_nil _ _ _ _, (fun x hx => by cases hx), by unfold ApartL; simp, (fun x hx => by cases hx), HB.out⟩
  have hpos := List.length_pos_iff.2 h0
  obtain ⟨gq, rfl⟩ : ∃ gq, xa = some ⟨gq, 0, none⟩ := by
    rcases hown.2 with ⟨h', hh⟩ | ⟨g', cap', cur, h', _⟩
    · omega
    · simp only [Value.slice.injEq] at h'
      exact ⟨g', h'.1⟩
  have hDg := hown.lt gq rfl
  obtain ⟨n, hn⟩ : ∃ n, G.length = n := ⟨_, rfl⟩
  have HN := Lib.hid hn
  have hpos' : 0 < n := by omega
  have hn6' : n ≤ 1048576 := by omega
  have g0 : ((n : Int) == 0) = false := beq_eq_false_iff_ne.2 (by omega)
  have g0' : (n == 0) = false := beq_eq_false_iff_ne.2 (by omega)
  by_cases h1 : n = 1 ∨ b.nl ≤ s
  · rw [rankP_one b h0 (by rw [hn]; exact h1)]
    have hways : ((n : Int) == 1) = true ∨ ((n : Int) == 1) = false ∧ decide ((b.nl : Int) ≤ s) = true ∧ decide (b.nl ≤ s) = true := by
      rcases h1 with h1 | h1
      · exact .inl (beq_iff_eq.2 (by omega))
      · by_cases h2 : n = 1
        · exact .inl (beq_iff_eq.2 (by omega))
        · exact .inr ⟨beq_eq_false_iff_ne.2 (by omega), decide_eq_true (by omega), decide_eq_true h1⟩
    have K0 := Lib.hid (JgAt.made h htab 52)
    obtain ⟨d0, d1, d2, d3, d4, d5, d6, d7, d8, d9⟩ := K0.out.cells
    have HB := Lib.hid K0.out.bel
    have HO := Lib.hid hown
    have HDG := Lib.hid hDg
    rw [hn]
    clear h htab hrow hown ht K0 IH h1 h0 hm hn hDg hpos hn6
    go_enter Tryz.func62, Tryz.ntmps62
    rcases hways with g1 | ⟨g1, g2, g3⟩
    all_goals
      go_wp2
      go_ret
      exact RankedL.one (by rw [← HN.out]; exact owns_below HO.out HB.out (Nat.le_refl _)) HB.out (by simp) (by have := HDG.out; omega)
  have hn1 : n ≠ 1 := fun e => h1 (.inl e)
  have hsl : s < b.nl := by omega
  have hsl' : (s : Int) < b.nl := by omega
  have g1 : ((n : Int) == 1) = false := beq_eq_false_iff_ne.2 (by omega)
  have g2 : decide ((b.nl : Int) ≤ s) = false := decide_eq_false (by omega)
  have g3 : decide (b.nl ≤ s) = false := decide_eq_false (by omega)
  obtain ⟨lb, lof, rfl, hlc, _⟩ := int_at h.2.1 hsl
  have HR0 := Lib.hid h
  have HT0 := Lib.hid htab
  have HCL : Hid (∀ wa, Below w.heap.size w wa → wa.cell? ⟨lb, lof + s, none⟩ = some (.int .i64 (b.l s))) := fun wa hb => by
    obtain ⟨q1, q2, hq, _, hc⟩ := int_at (HR0.out.2.1.below hb (Nat.le_refl _)) hsl
    simp only [Option.some.injEq, Addr.mk.injEq, and_true] at hq
    obtain ⟨rfl, rfl⟩ := hq
    exact hc
  have HR : Hid (rankP b G s = (partsL b (b.l s) (getI G) n).flatMap fun p => rankP b p (nextS b (partsL b (b.l s) (getI G) n).length s)) := by
    have := rankP_step b h0 (by rw [hn]; exact hn1) hsl
    rw [hn] at this
    exact this
  have HLT : Hid (∀ p ∈ partsL b (b.l s) (getI G) n, rankM b.nl p.length (nextS b (partsL b (b.l s) (getI G) n).length s) < m) := fun p hp => by
    have := rankM_lt (b := b) (G := G) hsl (by rw [hn]; exact hp)
    have hm2 := hm
    rw [hn] at this hm2
    omega
  have hrl := rankP_len b G s
  rw [hn] at hrl
  have HRL : Hid ((rankP b G s).length ≤ n) := hrl
  rw [HR.out]
  rw [HR.out] at HRL
  have HNX : Hid (nextS b (partsL b (b.l s) (getI G) n).length s = if 1 < (partsL b (b.l s) (getI G) n).length ∧ b.again = true ∧ mutualB (b.l s) = true then 0 else s + 1) := rfl
  have HPL : Hid (∀ p ∈ partsL b (b.l s) (getI G) n, p.length ≤ n ∧ teamsP b.nf p.length (getI p)) := fun p hp => ⟨partsL_le hp, fun i hi => by
    obtain ⟨j, hj, e⟩ := partsL_mem hp (getI p i) (by simp [getI, hi])
    rw [e]
    exact ht j (by omega)⟩
  have CMU := Lib.hid (fun wa => isMutual_impl (b.l s) wa)
  rw [hn] at hrow ht
  have CSP : Hid (∀ wa, Below w.heap.size w wa → Calls Tryz.prog 43 #[.agg #[.slice fa b.nf fc, .int .i64 b.win, .int .i64 b.draw, .int .i64 b.loss, .slice (some ⟨lb, lof, none⟩) b.nl lc, .bool b.again, .slice ga b.m gc, .slice qa b.nfa qc, .slice ta b.nta tc, .slice ra b.nf rc], .int .i64 (b.l s), .slice (some ⟨gq, 0, none⟩) n xc] wa (ListsL wa (partsL b (b.l s) (getI G) n))) := fun wa hb => split_impl fa fc (some ⟨lb, lof, none⟩) lc ga gc qa qc ta tc b ra rc (b.l s) _ n (getI G) wa hp (HR0.out.below hb (Nat.le_refl _)) (HT0.out.below hb (Nat.le_refl _)) (hrow.below hb (Nat.le_refl _)) ht hn6'
  have hpn := partsL_len (b := b) (key := b.l s) (gg := getI G) (n := n)
  have HDW : Hid (D ≤ w.heap.size) := (by show _ ≤ _; omega)
  rw [hn]
  clear HR h1 hrl h htab hrow ht hm h0 hn1 hown hn hDg hpos hn6
  generalize partsL b (b.l s) (getI G) n = PL at *
  generalize mutualB (b.l s) = mu at *
  generalize b.l s = key at *
  generalize nextS b PL.length s = nx at *
  have CR : Hid (∀ z : Int, z = (nx : Int) → ∀ p ∈ PL, ∀ D2 pv wa, Below w.heap.size w wa → wa.ownsRow D2 3 1 pv p.length (p.map (Value.int .i64)) → Calls Tryz.prog 62 #[.agg #[.slice fa b.nf fc, .int .i64 b.win, .int .i64 b.draw, .int .i64 b.loss, .slice (some ⟨lb, lof, none⟩) b.nl lc, .bool b.again, .slice ga b.m gc, .slice qa b.nfa qc, .slice ta b.nta tc, .slice ra b.nf rc], pv, .int .i64 z] wa (RankedL wa D2 pv (rankP b p nx))) := by
    intro z hz p hp2 D2 pv wa hb h2
    subst hz
    refine IH p nx pv D2 wa (HLT.out p hp2) (HR0.out.below hb (Nat.le_refl _)) (HT0.out.below hb (Nat.le_refl _)) h2 (HPL.out p hp2).2 (by have := (HPL.out p hp2).1; omega) ?_
    have := HNX.out
    split at this <;> omega
  clear IH HLT
  obtain ⟨ag, hag⟩ : ∃ ag, b.again = ag := ⟨_, rfl⟩
  have HAG := Lib.hid hag
  rw [hag] at HNX
  have hw : ¬ 1 < PL.length ∨ (1 < PL.length ∧ ag = false) ∨ (1 < PL.length ∧ ag = true ∧ mu = false) ∨ (1 < PL.length ∧ ag = true ∧ mu = true) := by
    by_cases h : 1 < PL.length
    · cases ag <;> cases mu <;> simp [h]
    · exact .inl h
  clear hag
  rcases hw with hA | ⟨hA, rfl⟩ | ⟨hA, rfl, rfl⟩ | ⟨hA, rfl, rfl⟩
  · have HZ : Hid ((s : Int) + 1 = nx) := by have := HNX.out; rw [if_neg (fun h => hA h.1)] at this; show _ = _; omega
    clear HNX
    have K00 := Lib.hid (JgAt.made HR0.out HT0.out 52)
    obtain ⟨d0, d1, d2, d3, d4, d5, d6, d7, d8, d9⟩ := K00.out.cells
    clear K00
    go_enter Tryz.func62, Tryz.ntmps62
    obtain ⟨S, HSd⟩ : ∃ S : World → Prop, S = fun w' => (fun x => JgAt w x w.heap.size fa fc (some ⟨lb, lof, none⟩) lc ga gc qa qc ta tc b ra rc (tabAll b)) w' := ⟨_, rfl⟩
    have KS : Hid (∀ wa wb, S wa → Below wa.heap.size wa wb → S wb) := by subst HSd; exact fun wa wb h b => h.next b
    have OS : Hid (∀ wa, S wa → (fun x => JgAt w x w.heap.size fa fc (some ⟨lb, lof, none⟩) lc ga gc qa qc ta tc b ra rc (tabAll b)) wa) := by subst HSd; exact fun wa h => h
    have IS : Hid (∀ wa, (fun x => JgAt w x w.heap.size fa fc (some ⟨lb, lof, none⟩) lc ga gc qa qc ta tc b ra rc (tabAll b)) wa → S wa) := by subst HSd; exact fun wa h => h
    clear HSd
    go_wp2_with fail
    refine wp_region_held_drew (S := S) (by kernel_rfl) ?_ (fun hHeld => ?_)
    · exact IS.out _ ((JgAt.made HR0.out HT0.out 52).drew)
    refine wpAnyH_take (i := 0) (v := ?_) rfl (by kernel_rfl) (by kernel_rfl) (by kernel_rfl) (fun _ _ _ h => h) (Or.inl ⟨by rfl, ?_⟩) hHeld ?_
    rotate_left
    · (intro wa hSw; have K := OS.out _ hSw; obtain ⟨d0, d1, d2, d3, d4, d5, d6, d7, d8, d9⟩ := K.cells; have z0 := HCL.out _ K.bel; go_simp; try with_reducible rfl)
    simp only [Act.put, List.getElem_toArray, List.getElem_cons_zero, List.setIfInBounds_toArray, List.set_cons_zero, List.set_cons_succ]
    refine wpAnyH_take (i := 1) (v := ?_) rfl (by kernel_rfl) (by kernel_rfl) (by kernel_rfl) (fun _ _ _ h => h) (Or.inl ⟨by rfl, ?_⟩) hHeld ?_
    rotate_left
    · (intro wa hSw; go_simp; try with_reducible rfl)
    simp only [Act.put, List.getElem_toArray, List.getElem_cons_zero, List.getElem_cons_succ, List.setIfInBounds_toArray, List.set_cons_zero, List.set_cons_succ]
    refine wpAnyH_take (i := 2) (v := ?_) rfl (by kernel_rfl) (by kernel_rfl) (by kernel_rfl) (fun _ _ _ h => h) (Or.inl ⟨by rfl, ?_⟩) hHeld ?_
    rotate_left
    · (intro wa hSw; go_simp; try with_reducible rfl)
    simp only [Act.put, List.getElem_toArray, List.getElem_cons_zero, List.getElem_cons_succ, List.setIfInBounds_toArray, List.set_cons_zero, List.set_cons_succ]
    refine wpAnyH_take (i := 3) (v := ?_) rfl (by kernel_rfl) (by kernel_rfl) (by kernel_rfl) (fun _ _ _ h => h) (Or.inl ⟨by rfl, ?_⟩) hHeld ?_
    rotate_left
    · (intro wa hSw; go_simp; try with_reducible rfl)
    simp only [Act.put, List.getElem_toArray, List.getElem_cons_zero, List.getElem_cons_succ, List.setIfInBounds_toArray, List.set_cons_zero, List.set_cons_succ]
    refine wpAnyH_take (i := 4) (v := ?_) rfl (by kernel_rfl) (by kernel_rfl) (by kernel_rfl) (fun _ _ _ h => h) (Or.inl ⟨by rfl, ?_⟩) hHeld ?_
    rotate_left
    · (intro wa hSw; have K := OS.out _ hSw; obtain ⟨d0, d1, d2, d3, d4, d5, d6, d7, d8, d9⟩ := K.cells; have z0 := HCL.out _ K.bel; go_simp; try with_reducible rfl)
    simp only [Act.put, List.getElem_toArray, List.getElem_cons_zero, List.getElem_cons_succ, List.setIfInBounds_toArray, List.set_cons_zero, List.set_cons_succ]
    refine wpAnyH_take (i := 5) (v := ?_) rfl (by kernel_rfl) (by kernel_rfl) (by kernel_rfl) (fun _ _ _ h => h) (Or.inl ⟨by rfl, ?_⟩) hHeld ?_
    rotate_left
    · (intro wa hSw; go_simp; try with_reducible rfl)
    simp only [Act.put, List.getElem_toArray, List.getElem_cons_zero, List.getElem_cons_succ, List.setIfInBounds_toArray, List.set_cons_zero, List.set_cons_succ]
    refine wpAnyH_ready (rs := [6]) (by kernel_rfl) (by simp) ?_
    refine AllReadyH.cons (o := _) rfl (fun K hK => ?_) AllReadyH.nil
    go_simp
    have KK := OS.out _ hHeld
    refine (CSP.out _ KK.bel).mono ?_
    rintro e w101 ⟨v8, T, rfl, hT, hLL, b101⟩
    clear KK
    have HPT := Lib.hid hT
    have HL2 := Lib.hid hLL
    obtain ⟨pa, pc, hvf⟩ := owns_form hLL.1
    subst hvf
    have HTL : Hid (T.length = PL.length) := (by show _ = _; rw [← hT, List.length_map])
    have HBQ := Lib.hid ((OS.out _ hHeld).bel.size)
    clear hT hLL
    (try go_wp2_with fail)
    refine hK.out _ _ ?_ (fun hHeld101 => ?_)
    · exact KS.out _ _ hHeld b101
    clear hK K
    refine wpAnyH_take (i := 7) (v := ?_) rfl (by kernel_rfl) (by kernel_rfl) (by kernel_rfl) (fun _ _ _ h => h) (Or.inl ⟨by rfl, ?_⟩) hHeld101 ?_
    rotate_left
    · (intro wa hSw; go_simp; try with_reducible rfl)
    simp only [Act.put, List.getElem_toArray, List.getElem_cons_zero, List.getElem_cons_succ, List.setIfInBounds_toArray, List.set_cons_zero, List.set_cons_succ]
    refine wpAnyH_done (by kernel_rfl) ?_ _
    have KE := Lib.hid (OS.out _ hHeld101)
    clear KS OS IS hHeld hHeld101
    obtain ⟨d0, d1, d2, d3, d4, d5, d6, d7, d8, d9⟩ := KE.out.cells
    have z0 := HCL.out _ KE.out.bel
    have hTn : T.length ≤ 1048576 := by have := HTL.out; omega
    have HL6 := Lib.hid (LL.mono HL2.out HBQ.out)
    have HB6 := Lib.hid KE.out.bel
    have g4 : decide ((1 : Int) < (T.length : Int)) = false := by have := HTL.out; first | exact decide_eq_true (by omega) | exact decide_eq_false (by omega)
    have g5 : decide (1 < T.length) = false := by have := HTL.out; first | exact decide_eq_true (by omega) | exact decide_eq_false (by omega)
    go_wp2
    clear g4 g5 d0 d1 d2 d3 d4 d5 d6 d7 d8 d9 z0
    go_loopw [10, 58] (fun ov iv wr => ∃ (k : Nat) (R : List (Value × List Int)), k ≤ T.length ∧ iv = .int .i64 k ∧ Hid (R.map Prod.snd = (PL.take k).flatMap fun p => rankP b p nx) ∧ Hid (RankSt w101 wr w.heap.size T k ov R)) (fun _ iv _ => T.length - (RowKit.intOf iv).toNat)
    case atStart => exact ⟨0, [], Nat.zero_le _, rfl, rfl, RankSt.start _ _ _⟩
    case round =>
      obtain ⟨k, R, hk, rfl, hR, HS⟩ := hrel
      have hDr := HS.out.bel.size
      by_cases hlt : k < T.length
      · obtain ⟨y, hy⟩ : ∃ y, T[k]? = some y := ⟨_, List.getElem?_eq_getElem hlt⟩
        have hyp : PL[k]? = some y.2 := by rw [← HPT.out, List.getElem?_map, hy]; rfl
        have hyP : y.2 ∈ PL := List.mem_of_getElem? hyp
        have LLr := HL6.out.below HS.out.bel (Nat.le_refl _)
        have hrow := LLr.2.1 _ (List.mem_of_getElem? hy)
        have hpn2 : y.2.length ≤ n := (HPL.out _ hyP).1
        obtain ⟨pg, pcap, he, hpc, _, cp⟩ := vals_at (x := y.1) (j := k) LLr.1 (by rw [List.getElem?_map, hy]; rfl)
        simp only [Value.slice.injEq, true_and] at he
        obtain ⟨rfl, rfl⟩ := he
        have HBr := Lib.hid (HB6.out.trans (HS.out.bel.mono HB6.out.size))
        have CRk := Lib.hid (CR.out _ HZ.out _ hyP w.heap.size y.1 _ HBr.out hrow)
        have HSU : Hid ((PL.take (k + 1)).flatMap (fun p => rankP b p nx) = R.map Prod.snd ++ rankP b y.2 nx) := by show _ = _; rw [take_flat_succ _ _ _ hyp, hR.out]
        have HRk : Hid (R.length + (rankP b y.2 nx).length ≤ n) := by
          have e1 := congrArg List.length HSU.out
          rw [List.length_append, List.length_map] at e1
          have e2 := take_flat (fun p => rankP b p nx) PL (k + 1)
          have e3 := HRL.out
          show _ ≤ _
          omega
        have hklt : (k : Int) < T.length := by omega
        have HY := Lib.hid hy
        obtain ⟨ya, yc, hyf⟩ := owns_form hrow
        obtain ⟨d0, d1, d2, d3, d4, d5, d6, d7, d8, d9⟩ := (KE.out.next (HS.out.bel)).cells
        clear hyp hyP LLr hrow hR hy
        obtain ⟨p, hp2⟩ : ∃ p, y.2 = p := ⟨_, rfl⟩
        rw [hp2] at hyf CRk HSU HRk hpn2
        have HYF := Lib.hid hyf
        rw [hyf] at CRk cp
        clear hyf hp2
        go_wp2_with fail
        refine CRk.out.mono ?_
        rintro e w7 ⟨rv, T2, rfl, hT2, a1, a2, a3, a4, b4⟩
        have HT2 := Lib.hid hT2
        have hl2 : T2.length = (rankP b p nx).length := by rw [← hT2, List.length_map]
        have hRm : R.length + T2.length ≤ 1048576 := by have := HRk.out; omega
        obtain ⟨gR, hg1, hg2, hg3, hg4⟩ := LL.rec (B := w.heap.size) ⟨owns_mono a1 (by have := HBr.out.size; omega), a2, a3⟩ (by omega)
        have HG1 := Lib.hid hg1
        have HG2 := Lib.hid hg2
        have HG3 := Lib.hid hg3
        have HG4 := Lib.hid hg4
        have HA1 := Lib.hid a1
        have HA2 := Lib.hid a2
        have HA3 := Lib.hid a3
        rw [← HYF.out] at a4
        have HA4 := Lib.hid a4
        have HB4 := Lib.hid b4
        have HLr := Lib.hid (owns_below HS.out.outer b4 (Nat.le_refl _))
        have hsz4 : w101.heap.size ≤ w7.heap.size := Nat.le_trans hDr b4.size
        obtain ⟨rra, rrc, hrf⟩ := owns_form a1
        subst hrf
        clear d0 d1 d2 d3 d4 d5 d6 d7 d8 d9 hT2 a1 a2 a3 a4 b4 hg1 hg2 hg3 hg4 hl2 CRk HRk HBr cp
        go_wp2_with (at_builtin; refine wpList_appendR rfl (.tmp 62) (.tmp 66) 46 rfl w101.heap.size 24 Tryz.underlying46 li lz0 lz1 lz2 rfl (by decide) rfl HLr.out rfl HG1.out HG2.out HG3.out hRm (by omega) hsz4 ?_; intro vv w8 o5 gr5 at5; have O5 := Lib.hid o5; have G5 := Lib.hid gr5; have A5 := Lib.hid at5; clear o5 gr5 at5)
        have O6 := O5.out
        rw [HG4.out] at O6
        have HS8 := Lib.hid (RankSt.step (L := []) HS.out HL6.out HY.out HA1.out HA2.out HA3.out HA4.out HB4.out O6 G5.out A5.out)
        clear O6 O5 G5 A5 HA1 HA2 HA3 HA4 HB4 HLr HS
        go_roundw
        case rel => exact ⟨k + 1, R ++ T2, by omega, by go_num, Lib.hid (by rw [List.map_append, HT2.out]; exact HSU.out.symm), HS8⟩
        case measure => simp [RowKit.intOf]; omega
      · obtain rfl : T.length = k := by omega
        have HRD := Lib.hid (RankSt.done (gv := .slice (some ⟨gq, 0, none⟩) n xc) HS.out HL6.out HB6.out HDW.out)
        rw [hR.out, HTL.out, List.take_length] at HRD
        clear HS hR
        go_wp2
        go_ret
        exact HRD.out
  · have HZ : Hid ((s : Int) + 1 = nx) := by have := HNX.out; rw [if_neg (fun h => by cases h.2.1)] at this; show _ = _; omega
    clear HNX
    have K00 := Lib.hid (JgAt.made HR0.out HT0.out 52)
    obtain ⟨d0, d1, d2, d3, d4, d5, d6, d7, d8, d9⟩ := K00.out.cells
    clear K00
    go_enter Tryz.func62, Tryz.ntmps62
    obtain ⟨S, HSd⟩ : ∃ S : World → Prop, S = fun w' => (fun x => JgAt w x w.heap.size fa fc (some ⟨lb, lof, none⟩) lc ga gc qa qc ta tc b ra rc (tabAll b)) w' := ⟨_, rfl⟩
    have KS : Hid (∀ wa wb, S wa → Below wa.heap.size wa wb → S wb) := by subst HSd; exact fun wa wb h b => h.next b
    have OS : Hid (∀ wa, S wa → (fun x => JgAt w x w.heap.size fa fc (some ⟨lb, lof, none⟩) lc ga gc qa qc ta tc b ra rc (tabAll b)) wa) := by subst HSd; exact fun wa h => h
    have IS : Hid (∀ wa, (fun x => JgAt w x w.heap.size fa fc (some ⟨lb, lof, none⟩) lc ga gc qa qc ta tc b ra rc (tabAll b)) wa → S wa) := by subst HSd; exact fun wa h => h
    clear HSd
    go_wp2_with fail
    refine wp_region_held_drew (S := S) (by kernel_rfl) ?_ (fun hHeld => ?_)
    · exact IS.out _ ((JgAt.made HR0.out HT0.out 52).drew)
    refine wpAnyH_take (i := 0) (v := ?_) rfl (by kernel_rfl) (by kernel_rfl) (by kernel_rfl) (fun _ _ _ h => h) (Or.inl ⟨by rfl, ?_⟩) hHeld ?_
    rotate_left
    · (intro wa hSw; have K := OS.out _ hSw; obtain ⟨d0, d1, d2, d3, d4, d5, d6, d7, d8, d9⟩ := K.cells; have z0 := HCL.out _ K.bel; go_simp; try with_reducible rfl)
    simp only [Act.put, List.getElem_toArray, List.getElem_cons_zero, List.setIfInBounds_toArray, List.set_cons_zero, List.set_cons_succ]
    refine wpAnyH_take (i := 1) (v := ?_) rfl (by kernel_rfl) (by kernel_rfl) (by kernel_rfl) (fun _ _ _ h => h) (Or.inl ⟨by rfl, ?_⟩) hHeld ?_
    rotate_left
    · (intro wa hSw; go_simp; try with_reducible rfl)
    simp only [Act.put, List.getElem_toArray, List.getElem_cons_zero, List.getElem_cons_succ, List.setIfInBounds_toArray, List.set_cons_zero, List.set_cons_succ]
    refine wpAnyH_take (i := 2) (v := ?_) rfl (by kernel_rfl) (by kernel_rfl) (by kernel_rfl) (fun _ _ _ h => h) (Or.inl ⟨by rfl, ?_⟩) hHeld ?_
    rotate_left
    · (intro wa hSw; go_simp; try with_reducible rfl)
    simp only [Act.put, List.getElem_toArray, List.getElem_cons_zero, List.getElem_cons_succ, List.setIfInBounds_toArray, List.set_cons_zero, List.set_cons_succ]
    refine wpAnyH_take (i := 3) (v := ?_) rfl (by kernel_rfl) (by kernel_rfl) (by kernel_rfl) (fun _ _ _ h => h) (Or.inl ⟨by rfl, ?_⟩) hHeld ?_
    rotate_left
    · (intro wa hSw; go_simp; try with_reducible rfl)
    simp only [Act.put, List.getElem_toArray, List.getElem_cons_zero, List.getElem_cons_succ, List.setIfInBounds_toArray, List.set_cons_zero, List.set_cons_succ]
    refine wpAnyH_take (i := 4) (v := ?_) rfl (by kernel_rfl) (by kernel_rfl) (by kernel_rfl) (fun _ _ _ h => h) (Or.inl ⟨by rfl, ?_⟩) hHeld ?_
    rotate_left
    · (intro wa hSw; have K := OS.out _ hSw; obtain ⟨d0, d1, d2, d3, d4, d5, d6, d7, d8, d9⟩ := K.cells; have z0 := HCL.out _ K.bel; go_simp; try with_reducible rfl)
    simp only [Act.put, List.getElem_toArray, List.getElem_cons_zero, List.getElem_cons_succ, List.setIfInBounds_toArray, List.set_cons_zero, List.set_cons_succ]
    refine wpAnyH_take (i := 5) (v := ?_) rfl (by kernel_rfl) (by kernel_rfl) (by kernel_rfl) (fun _ _ _ h => h) (Or.inl ⟨by rfl, ?_⟩) hHeld ?_
    rotate_left
    · (intro wa hSw; go_simp; try with_reducible rfl)
    simp only [Act.put, List.getElem_toArray, List.getElem_cons_zero, List.getElem_cons_succ, List.setIfInBounds_toArray, List.set_cons_zero, List.set_cons_succ]
    refine wpAnyH_ready (rs := [6]) (by kernel_rfl) (by simp) ?_
    refine AllReadyH.cons (o := _) rfl (fun K hK => ?_) AllReadyH.nil
    go_simp
    have KK := OS.out _ hHeld
    refine (CSP.out _ KK.bel).mono ?_
    rintro e w101 ⟨v8, T, rfl, hT, hLL, b101⟩
    clear KK
    have HPT := Lib.hid hT
    have HL2 := Lib.hid hLL
    obtain ⟨pa, pc, hvf⟩ := owns_form hLL.1
    subst hvf
    have HTL : Hid (T.length = PL.length) := (by show _ = _; rw [← hT, List.length_map])
    have HBQ := Lib.hid ((OS.out _ hHeld).bel.size)
    clear hT hLL
    (try go_wp2_with fail)
    refine hK.out _ _ ?_ (fun hHeld101 => ?_)
    · exact KS.out _ _ hHeld b101
    clear hK K
    refine wpAnyH_take (i := 7) (v := ?_) rfl (by kernel_rfl) (by kernel_rfl) (by kernel_rfl) (fun _ _ _ h => h) (Or.inl ⟨by rfl, ?_⟩) hHeld101 ?_
    rotate_left
    · (intro wa hSw; go_simp; try with_reducible rfl)
    simp only [Act.put, List.getElem_toArray, List.getElem_cons_zero, List.getElem_cons_succ, List.setIfInBounds_toArray, List.set_cons_zero, List.set_cons_succ]
    refine wpAnyH_done (by kernel_rfl) ?_ _
    have KE := Lib.hid (OS.out _ hHeld101)
    clear KS OS IS hHeld hHeld101
    obtain ⟨d0, d1, d2, d3, d4, d5, d6, d7, d8, d9⟩ := KE.out.cells
    have z0 := HCL.out _ KE.out.bel
    have hTn : T.length ≤ 1048576 := by have := HTL.out; omega
    have HL6 := Lib.hid (LL.mono HL2.out HBQ.out)
    have HB6 := Lib.hid KE.out.bel
    have g4 : decide ((1 : Int) < (T.length : Int)) = true := by have := HTL.out; first | exact decide_eq_true (by omega) | exact decide_eq_false (by omega)
    have g5 : decide (1 < T.length) = true := by have := HTL.out; first | exact decide_eq_true (by omega) | exact decide_eq_false (by omega)
    rw [HAG.out] at d5
    go_wp2
    clear g4 g5 d0 d1 d2 d3 d4 d5 d6 d7 d8 d9 z0
    go_loopw [10, 58] (fun ov iv wr => ∃ (k : Nat) (R : List (Value × List Int)), k ≤ T.length ∧ iv = .int .i64 k ∧ Hid (R.map Prod.snd = (PL.take k).flatMap fun p => rankP b p nx) ∧ Hid (RankSt w101 wr w.heap.size T k ov R)) (fun _ iv _ => T.length - (RowKit.intOf iv).toNat)
    case atStart => exact ⟨0, [], Nat.zero_le _, rfl, rfl, RankSt.start _ _ _⟩
    case round =>
      obtain ⟨k, R, hk, rfl, hR, HS⟩ := hrel
      have hDr := HS.out.bel.size
      by_cases hlt : k < T.length
      · obtain ⟨y, hy⟩ : ∃ y, T[k]? = some y := ⟨_, List.getElem?_eq_getElem hlt⟩
        have hyp : PL[k]? = some y.2 := by rw [← HPT.out, List.getElem?_map, hy]; rfl
        have hyP : y.2 ∈ PL := List.mem_of_getElem? hyp
        have LLr := HL6.out.below HS.out.bel (Nat.le_refl _)
        have hrow := LLr.2.1 _ (List.mem_of_getElem? hy)
        have hpn2 : y.2.length ≤ n := (HPL.out _ hyP).1
        obtain ⟨pg, pcap, he, hpc, _, cp⟩ := vals_at (x := y.1) (j := k) LLr.1 (by rw [List.getElem?_map, hy]; rfl)
        simp only [Value.slice.injEq, true_and] at he
        obtain ⟨rfl, rfl⟩ := he
        have HBr := Lib.hid (HB6.out.trans (HS.out.bel.mono HB6.out.size))
        have CRk := Lib.hid (CR.out _ HZ.out _ hyP w.heap.size y.1 _ HBr.out hrow)
        have HSU : Hid ((PL.take (k + 1)).flatMap (fun p => rankP b p nx) = R.map Prod.snd ++ rankP b y.2 nx) := by show _ = _; rw [take_flat_succ _ _ _ hyp, hR.out]
        have HRk : Hid (R.length + (rankP b y.2 nx).length ≤ n) := by
          have e1 := congrArg List.length HSU.out
          rw [List.length_append, List.length_map] at e1
          have e2 := take_flat (fun p => rankP b p nx) PL (k + 1)
          have e3 := HRL.out
          show _ ≤ _
          omega
        have hklt : (k : Int) < T.length := by omega
        have HY := Lib.hid hy
        obtain ⟨ya, yc, hyf⟩ := owns_form hrow
        obtain ⟨d0, d1, d2, d3, d4, d5, d6, d7, d8, d9⟩ := (KE.out.next (HS.out.bel)).cells
        clear hyp hyP LLr hrow hR hy
        obtain ⟨p, hp2⟩ : ∃ p, y.2 = p := ⟨_, rfl⟩
        rw [hp2] at hyf CRk HSU HRk hpn2
        have HYF := Lib.hid hyf
        rw [hyf] at CRk cp
        clear hyf hp2
        go_wp2_with fail
        refine CRk.out.mono ?_
        rintro e w7 ⟨rv, T2, rfl, hT2, a1, a2, a3, a4, b4⟩
        have HT2 := Lib.hid hT2
        have hl2 : T2.length = (rankP b p nx).length := by rw [← hT2, List.length_map]
        have hRm : R.length + T2.length ≤ 1048576 := by have := HRk.out; omega
        obtain ⟨gR, hg1, hg2, hg3, hg4⟩ := LL.rec (B := w.heap.size) ⟨owns_mono a1 (by have := HBr.out.size; omega), a2, a3⟩ (by omega)
        have HG1 := Lib.hid hg1
        have HG2 := Lib.hid hg2
        have HG3 := Lib.hid hg3
        have HG4 := Lib.hid hg4
        have HA1 := Lib.hid a1
        have HA2 := Lib.hid a2
        have HA3 := Lib.hid a3
        rw [← HYF.out] at a4
        have HA4 := Lib.hid a4
        have HB4 := Lib.hid b4
        have HLr := Lib.hid (owns_below HS.out.outer b4 (Nat.le_refl _))
        have hsz4 : w101.heap.size ≤ w7.heap.size := Nat.le_trans hDr b4.size
        obtain ⟨rra, rrc, hrf⟩ := owns_form a1
        subst hrf
        clear d0 d1 d2 d3 d4 d5 d6 d7 d8 d9 hT2 a1 a2 a3 a4 b4 hg1 hg2 hg3 hg4 hl2 CRk HRk HBr cp
        go_wp2_with (at_builtin; refine wpList_appendR rfl (.tmp 62) (.tmp 66) 46 rfl w101.heap.size 24 Tryz.underlying46 li lz0 lz1 lz2 rfl (by decide) rfl HLr.out rfl HG1.out HG2.out HG3.out hRm (by omega) hsz4 ?_; intro vv w8 o5 gr5 at5; have O5 := Lib.hid o5; have G5 := Lib.hid gr5; have A5 := Lib.hid at5; clear o5 gr5 at5)
        have O6 := O5.out
        rw [HG4.out] at O6
        have HS8 := Lib.hid (RankSt.step (L := []) HS.out HL6.out HY.out HA1.out HA2.out HA3.out HA4.out HB4.out O6 G5.out A5.out)
        clear O6 O5 G5 A5 HA1 HA2 HA3 HA4 HB4 HLr HS
        go_roundw
        case rel => exact ⟨k + 1, R ++ T2, by omega, by go_num, Lib.hid (by rw [List.map_append, HT2.out]; exact HSU.out.symm), HS8⟩
        case measure => simp [RowKit.intOf]; omega
      · obtain rfl : T.length = k := by omega
        have HRD := Lib.hid (RankSt.done (gv := .slice (some ⟨gq, 0, none⟩) n xc) HS.out HL6.out HB6.out HDW.out)
        rw [hR.out, HTL.out, List.take_length] at HRD
        clear HS hR
        go_wp2
        go_ret
        exact HRD.out
  · have HZ : Hid ((s : Int) + 1 = nx) := by have := HNX.out; rw [if_neg (fun h => by cases h.2.2)] at this; show _ = _; omega
    clear HNX
    have K00 := Lib.hid (JgAt.made HR0.out HT0.out 52)
    obtain ⟨d0, d1, d2, d3, d4, d5, d6, d7, d8, d9⟩ := K00.out.cells
    clear K00
    go_enter Tryz.func62, Tryz.ntmps62
    obtain ⟨S, HSd⟩ : ∃ S : World → Prop, S = fun w' => (fun x => JgAt w x w.heap.size fa fc (some ⟨lb, lof, none⟩) lc ga gc qa qc ta tc b ra rc (tabAll b)) w' := ⟨_, rfl⟩
    have KS : Hid (∀ wa wb, S wa → Below wa.heap.size wa wb → S wb) := by subst HSd; exact fun wa wb h b => h.next b
    have OS : Hid (∀ wa, S wa → (fun x => JgAt w x w.heap.size fa fc (some ⟨lb, lof, none⟩) lc ga gc qa qc ta tc b ra rc (tabAll b)) wa) := by subst HSd; exact fun wa h => h
    have IS : Hid (∀ wa, (fun x => JgAt w x w.heap.size fa fc (some ⟨lb, lof, none⟩) lc ga gc qa qc ta tc b ra rc (tabAll b)) wa → S wa) := by subst HSd; exact fun wa h => h
    clear HSd
    go_wp2_with fail
    refine wp_region_held_drew (S := S) (by kernel_rfl) ?_ (fun hHeld => ?_)
    · exact IS.out _ ((JgAt.made HR0.out HT0.out 52).drew)
    refine wpAnyH_take (i := 0) (v := ?_) rfl (by kernel_rfl) (by kernel_rfl) (by kernel_rfl) (fun _ _ _ h => h) (Or.inl ⟨by rfl, ?_⟩) hHeld ?_
    rotate_left
    · (intro wa hSw; have K := OS.out _ hSw; obtain ⟨d0, d1, d2, d3, d4, d5, d6, d7, d8, d9⟩ := K.cells; have z0 := HCL.out _ K.bel; go_simp; try with_reducible rfl)
    simp only [Act.put, List.getElem_toArray, List.getElem_cons_zero, List.setIfInBounds_toArray, List.set_cons_zero, List.set_cons_succ]
    refine wpAnyH_take (i := 1) (v := ?_) rfl (by kernel_rfl) (by kernel_rfl) (by kernel_rfl) (fun _ _ _ h => h) (Or.inl ⟨by rfl, ?_⟩) hHeld ?_
    rotate_left
    · (intro wa hSw; go_simp; try with_reducible rfl)
    simp only [Act.put, List.getElem_toArray, List.getElem_cons_zero, List.getElem_cons_succ, List.setIfInBounds_toArray, List.set_cons_zero, List.set_cons_succ]
    refine wpAnyH_take (i := 2) (v := ?_) rfl (by kernel_rfl) (by kernel_rfl) (by kernel_rfl) (fun _ _ _ h => h) (Or.inl ⟨by rfl, ?_⟩) hHeld ?_
    rotate_left
    · (intro wa hSw; go_simp; try with_reducible rfl)
    simp only [Act.put, List.getElem_toArray, List.getElem_cons_zero, List.getElem_cons_succ, List.setIfInBounds_toArray, List.set_cons_zero, List.set_cons_succ]
    refine wpAnyH_take (i := 3) (v := ?_) rfl (by kernel_rfl) (by kernel_rfl) (by kernel_rfl) (fun _ _ _ h => h) (Or.inl ⟨by rfl, ?_⟩) hHeld ?_
    rotate_left
    · (intro wa hSw; go_simp; try with_reducible rfl)
    simp only [Act.put, List.getElem_toArray, List.getElem_cons_zero, List.getElem_cons_succ, List.setIfInBounds_toArray, List.set_cons_zero, List.set_cons_succ]
    refine wpAnyH_take (i := 4) (v := ?_) rfl (by kernel_rfl) (by kernel_rfl) (by kernel_rfl) (fun _ _ _ h => h) (Or.inl ⟨by rfl, ?_⟩) hHeld ?_
    rotate_left
    · (intro wa hSw; have K := OS.out _ hSw; obtain ⟨d0, d1, d2, d3, d4, d5, d6, d7, d8, d9⟩ := K.cells; have z0 := HCL.out _ K.bel; go_simp; try with_reducible rfl)
    simp only [Act.put, List.getElem_toArray, List.getElem_cons_zero, List.getElem_cons_succ, List.setIfInBounds_toArray, List.set_cons_zero, List.set_cons_succ]
    refine wpAnyH_take (i := 5) (v := ?_) rfl (by kernel_rfl) (by kernel_rfl) (by kernel_rfl) (fun _ _ _ h => h) (Or.inl ⟨by rfl, ?_⟩) hHeld ?_
    rotate_left
    · (intro wa hSw; go_simp; try with_reducible rfl)
    simp only [Act.put, List.getElem_toArray, List.getElem_cons_zero, List.getElem_cons_succ, List.setIfInBounds_toArray, List.set_cons_zero, List.set_cons_succ]
    refine wpAnyH_ready (rs := [6]) (by kernel_rfl) (by simp) ?_
    refine AllReadyH.cons (o := _) rfl (fun K hK => ?_) AllReadyH.nil
    go_simp
    have KK := OS.out _ hHeld
    refine (CSP.out _ KK.bel).mono ?_
    rintro e w101 ⟨v8, T, rfl, hT, hLL, b101⟩
    clear KK
    have HPT := Lib.hid hT
    have HL2 := Lib.hid hLL
    obtain ⟨pa, pc, hvf⟩ := owns_form hLL.1
    subst hvf
    have HTL : Hid (T.length = PL.length) := (by show _ = _; rw [← hT, List.length_map])
    have HBQ := Lib.hid ((OS.out _ hHeld).bel.size)
    clear hT hLL
    (try go_wp2_with fail)
    refine hK.out _ _ ?_ (fun hHeld101 => ?_)
    · exact KS.out _ _ hHeld b101
    clear hK K
    refine wpAnyH_take (i := 7) (v := ?_) rfl (by kernel_rfl) (by kernel_rfl) (by kernel_rfl) (fun _ _ _ h => h) (Or.inl ⟨by rfl, ?_⟩) hHeld101 ?_
    rotate_left
    · (intro wa hSw; go_simp; try with_reducible rfl)
    simp only [Act.put, List.getElem_toArray, List.getElem_cons_zero, List.getElem_cons_succ, List.setIfInBounds_toArray, List.set_cons_zero, List.set_cons_succ]
    refine wpAnyH_done (by kernel_rfl) ?_ _
    have KE := Lib.hid (OS.out _ hHeld101)
    clear KS OS IS hHeld hHeld101
    obtain ⟨d0, d1, d2, d3, d4, d5, d6, d7, d8, d9⟩ := KE.out.cells
    have z0 := HCL.out _ KE.out.bel
    have hTn : T.length ≤ 1048576 := by have := HTL.out; omega
    have HL6 := Lib.hid (LL.mono HL2.out HBQ.out)
    have HB6 := Lib.hid KE.out.bel
    have g4 : decide ((1 : Int) < (T.length : Int)) = true := by have := HTL.out; first | exact decide_eq_true (by omega) | exact decide_eq_false (by omega)
    have g5 : decide (1 < T.length) = true := by have := HTL.out; first | exact decide_eq_true (by omega) | exact decide_eq_false (by omega)
    rw [HAG.out] at d5
    go_wp2_with fail
    refine (CMU.out _).mono ?_
    rintro e w2 ⟨rfl, hw2⟩
    subst hw2
    go_wp2
    clear g4 g5 d0 d1 d2 d3 d4 d5 d6 d7 d8 d9 z0
    go_loopw [10, 58] (fun ov iv wr => ∃ (k : Nat) (R : List (Value × List Int)), k ≤ T.length ∧ iv = .int .i64 k ∧ Hid (R.map Prod.snd = (PL.take k).flatMap fun p => rankP b p nx) ∧ Hid (RankSt w101 wr w.heap.size T k ov R)) (fun _ iv _ => T.length - (RowKit.intOf iv).toNat)
    case atStart => exact ⟨0, [], Nat.zero_le _, rfl, rfl, RankSt.start _ _ _⟩
    case round =>
      obtain ⟨k, R, hk, rfl, hR, HS⟩ := hrel
      have hDr := HS.out.bel.size
      by_cases hlt : k < T.length
      · obtain ⟨y, hy⟩ : ∃ y, T[k]? = some y := ⟨_, List.getElem?_eq_getElem hlt⟩
        have hyp : PL[k]? = some y.2 := by rw [← HPT.out, List.getElem?_map, hy]; rfl
        have hyP : y.2 ∈ PL := List.mem_of_getElem? hyp
        have LLr := HL6.out.below HS.out.bel (Nat.le_refl _)
        have hrow := LLr.2.1 _ (List.mem_of_getElem? hy)
        have hpn2 : y.2.length ≤ n := (HPL.out _ hyP).1
        obtain ⟨pg, pcap, he, hpc, _, cp⟩ := vals_at (x := y.1) (j := k) LLr.1 (by rw [List.getElem?_map, hy]; rfl)
        simp only [Value.slice.injEq, true_and] at he
        obtain ⟨rfl, rfl⟩ := he
        have HBr := Lib.hid (HB6.out.trans (HS.out.bel.mono HB6.out.size))
        have CRk := Lib.hid (CR.out _ HZ.out _ hyP w.heap.size y.1 _ HBr.out hrow)
        have HSU : Hid ((PL.take (k + 1)).flatMap (fun p => rankP b p nx) = R.map Prod.snd ++ rankP b y.2 nx) := by show _ = _; rw [take_flat_succ _ _ _ hyp, hR.out]
        have HRk : Hid (R.length + (rankP b y.2 nx).length ≤ n) := by
          have e1 := congrArg List.length HSU.out
          rw [List.length_append, List.length_map] at e1
          have e2 := take_flat (fun p => rankP b p nx) PL (k + 1)
          have e3 := HRL.out
          show _ ≤ _
          omega
        have hklt : (k : Int) < T.length := by omega
        have HY := Lib.hid hy
        obtain ⟨ya, yc, hyf⟩ := owns_form hrow
        obtain ⟨d0, d1, d2, d3, d4, d5, d6, d7, d8, d9⟩ := (KE.out.next (HS.out.bel)).cells
        clear hyp hyP LLr hrow hR hy
        obtain ⟨p, hp2⟩ : ∃ p, y.2 = p := ⟨_, rfl⟩
        rw [hp2] at hyf CRk HSU HRk hpn2
        have HYF := Lib.hid hyf
        rw [hyf] at CRk cp
        clear hyf hp2
        go_wp2_with fail
        refine CRk.out.mono ?_
        rintro e w7 ⟨rv, T2, rfl, hT2, a1, a2, a3, a4, b4⟩
        have HT2 := Lib.hid hT2
        have hl2 : T2.length = (rankP b p nx).length := by rw [← hT2, List.length_map]
        have hRm : R.length + T2.length ≤ 1048576 := by have := HRk.out; omega
        obtain ⟨gR, hg1, hg2, hg3, hg4⟩ := LL.rec (B := w.heap.size) ⟨owns_mono a1 (by have := HBr.out.size; omega), a2, a3⟩ (by omega)
        have HG1 := Lib.hid hg1
        have HG2 := Lib.hid hg2
        have HG3 := Lib.hid hg3
        have HG4 := Lib.hid hg4
        have HA1 := Lib.hid a1
        have HA2 := Lib.hid a2
        have HA3 := Lib.hid a3
        rw [← HYF.out] at a4
        have HA4 := Lib.hid a4
        have HB4 := Lib.hid b4
        have HLr := Lib.hid (owns_below HS.out.outer b4 (Nat.le_refl _))
        have hsz4 : w101.heap.size ≤ w7.heap.size := Nat.le_trans hDr b4.size
        obtain ⟨rra, rrc, hrf⟩ := owns_form a1
        subst hrf
        clear d0 d1 d2 d3 d4 d5 d6 d7 d8 d9 hT2 a1 a2 a3 a4 b4 hg1 hg2 hg3 hg4 hl2 CRk HRk HBr cp
        go_wp2_with (at_builtin; refine wpList_appendR rfl (.tmp 62) (.tmp 66) 46 rfl w101.heap.size 24 Tryz.underlying46 li lz0 lz1 lz2 rfl (by decide) rfl HLr.out rfl HG1.out HG2.out HG3.out hRm (by omega) hsz4 ?_; intro vv w8 o5 gr5 at5; have O5 := Lib.hid o5; have G5 := Lib.hid gr5; have A5 := Lib.hid at5; clear o5 gr5 at5)
        have O6 := O5.out
        rw [HG4.out] at O6
        have HS8 := Lib.hid (RankSt.step (L := []) HS.out HL6.out HY.out HA1.out HA2.out HA3.out HA4.out HB4.out O6 G5.out A5.out)
        clear O6 O5 G5 A5 HA1 HA2 HA3 HA4 HB4 HLr HS
        go_roundw
        case rel => exact ⟨k + 1, R ++ T2, by omega, by go_num, Lib.hid (by rw [List.map_append, HT2.out]; exact HSU.out.symm), HS8⟩
        case measure => simp [RowKit.intOf]; omega
      · obtain rfl : T.length = k := by omega
        have HRD := Lib.hid (RankSt.done (gv := .slice (some ⟨gq, 0, none⟩) n xc) HS.out HL6.out HB6.out HDW.out)
        rw [hR.out, HTL.out, List.take_length] at HRD
        clear HS hR
        go_wp2
        go_ret
        exact HRD.out
  · have HZ : Hid ((0 : Int) = nx) := by have := HNX.out; rw [if_pos ⟨hA, by first | rfl | trivial, by first | rfl | trivial⟩] at this; show _ = _; omega
    clear HNX
    have K00 := Lib.hid (JgAt.made HR0.out HT0.out 52)
    obtain ⟨d0, d1, d2, d3, d4, d5, d6, d7, d8, d9⟩ := K00.out.cells
    clear K00
    go_enter Tryz.func62, Tryz.ntmps62
    obtain ⟨S, HSd⟩ : ∃ S : World → Prop, S = fun w' => (fun x => JgAt w x w.heap.size fa fc (some ⟨lb, lof, none⟩) lc ga gc qa qc ta tc b ra rc (tabAll b)) w' := ⟨_, rfl⟩
    have KS : Hid (∀ wa wb, S wa → Below wa.heap.size wa wb → S wb) := by subst HSd; exact fun wa wb h b => h.next b
    have OS : Hid (∀ wa, S wa → (fun x => JgAt w x w.heap.size fa fc (some ⟨lb, lof, none⟩) lc ga gc qa qc ta tc b ra rc (tabAll b)) wa) := by subst HSd; exact fun wa h => h
    have IS : Hid (∀ wa, (fun x => JgAt w x w.heap.size fa fc (some ⟨lb, lof, none⟩) lc ga gc qa qc ta tc b ra rc (tabAll b)) wa → S wa) := by subst HSd; exact fun wa h => h
    clear HSd
    go_wp2_with fail
    refine wp_region_held_drew (S := S) (by kernel_rfl) ?_ (fun hHeld => ?_)
    · exact IS.out _ ((JgAt.made HR0.out HT0.out 52).drew)
    refine wpAnyH_take (i := 0) (v := ?_) rfl (by kernel_rfl) (by kernel_rfl) (by kernel_rfl) (fun _ _ _ h => h) (Or.inl ⟨by rfl, ?_⟩) hHeld ?_
    rotate_left
    · (intro wa hSw; have K := OS.out _ hSw; obtain ⟨d0, d1, d2, d3, d4, d5, d6, d7, d8, d9⟩ := K.cells; have z0 := HCL.out _ K.bel; go_simp; try with_reducible rfl)
    simp only [Act.put, List.getElem_toArray, List.getElem_cons_zero, List.setIfInBounds_toArray, List.set_cons_zero, List.set_cons_succ]
    refine wpAnyH_take (i := 1) (v := ?_) rfl (by kernel_rfl) (by kernel_rfl) (by kernel_rfl) (fun _ _ _ h => h) (Or.inl ⟨by rfl, ?_⟩) hHeld ?_
    rotate_left
    · (intro wa hSw; go_simp; try with_reducible rfl)
    simp only [Act.put, List.getElem_toArray, List.getElem_cons_zero, List.getElem_cons_succ, List.setIfInBounds_toArray, List.set_cons_zero, List.set_cons_succ]
    refine wpAnyH_take (i := 2) (v := ?_) rfl (by kernel_rfl) (by kernel_rfl) (by kernel_rfl) (fun _ _ _ h => h) (Or.inl ⟨by rfl, ?_⟩) hHeld ?_
    rotate_left
    · (intro wa hSw; go_simp; try with_reducible rfl)
    simp only [Act.put, List.getElem_toArray, List.getElem_cons_zero, List.getElem_cons_succ, List.setIfInBounds_toArray, List.set_cons_zero, List.set_cons_succ]
    refine wpAnyH_take (i := 3) (v := ?_) rfl (by kernel_rfl) (by kernel_rfl) (by kernel_rfl) (fun _ _ _ h => h) (Or.inl ⟨by rfl, ?_⟩) hHeld ?_
    rotate_left
    · (intro wa hSw; go_simp; try with_reducible rfl)
    simp only [Act.put, List.getElem_toArray, List.getElem_cons_zero, List.getElem_cons_succ, List.setIfInBounds_toArray, List.set_cons_zero, List.set_cons_succ]
    refine wpAnyH_take (i := 4) (v := ?_) rfl (by kernel_rfl) (by kernel_rfl) (by kernel_rfl) (fun _ _ _ h => h) (Or.inl ⟨by rfl, ?_⟩) hHeld ?_
    rotate_left
    · (intro wa hSw; have K := OS.out _ hSw; obtain ⟨d0, d1, d2, d3, d4, d5, d6, d7, d8, d9⟩ := K.cells; have z0 := HCL.out _ K.bel; go_simp; try with_reducible rfl)
    simp only [Act.put, List.getElem_toArray, List.getElem_cons_zero, List.getElem_cons_succ, List.setIfInBounds_toArray, List.set_cons_zero, List.set_cons_succ]
    refine wpAnyH_take (i := 5) (v := ?_) rfl (by kernel_rfl) (by kernel_rfl) (by kernel_rfl) (fun _ _ _ h => h) (Or.inl ⟨by rfl, ?_⟩) hHeld ?_
    rotate_left
    · (intro wa hSw; go_simp; try with_reducible rfl)
    simp only [Act.put, List.getElem_toArray, List.getElem_cons_zero, List.getElem_cons_succ, List.setIfInBounds_toArray, List.set_cons_zero, List.set_cons_succ]
    refine wpAnyH_ready (rs := [6]) (by kernel_rfl) (by simp) ?_
    refine AllReadyH.cons (o := _) rfl (fun K hK => ?_) AllReadyH.nil
    go_simp
    have KK := OS.out _ hHeld
    refine (CSP.out _ KK.bel).mono ?_
    rintro e w101 ⟨v8, T, rfl, hT, hLL, b101⟩
    clear KK
    have HPT := Lib.hid hT
    have HL2 := Lib.hid hLL
    obtain ⟨pa, pc, hvf⟩ := owns_form hLL.1
    subst hvf
    have HTL : Hid (T.length = PL.length) := (by show _ = _; rw [← hT, List.length_map])
    have HBQ := Lib.hid ((OS.out _ hHeld).bel.size)
    clear hT hLL
    (try go_wp2_with fail)
    refine hK.out _ _ ?_ (fun hHeld101 => ?_)
    · exact KS.out _ _ hHeld b101
    clear hK K
    refine wpAnyH_take (i := 7) (v := ?_) rfl (by kernel_rfl) (by kernel_rfl) (by kernel_rfl) (fun _ _ _ h => h) (Or.inl ⟨by rfl, ?_⟩) hHeld101 ?_
    rotate_left
    · (intro wa hSw; go_simp; try with_reducible rfl)
    simp only [Act.put, List.getElem_toArray, List.getElem_cons_zero, List.getElem_cons_succ, List.setIfInBounds_toArray, List.set_cons_zero, List.set_cons_succ]
    refine wpAnyH_done (by kernel_rfl) ?_ _
    have KE := Lib.hid (OS.out _ hHeld101)
    clear KS OS IS hHeld hHeld101
    obtain ⟨d0, d1, d2, d3, d4, d5, d6, d7, d8, d9⟩ := KE.out.cells
    have z0 := HCL.out _ KE.out.bel
    have hTn : T.length ≤ 1048576 := by have := HTL.out; omega
    have HL6 := Lib.hid (LL.mono HL2.out HBQ.out)
    have HB6 := Lib.hid KE.out.bel
    have g4 : decide ((1 : Int) < (T.length : Int)) = true := by have := HTL.out; first | exact decide_eq_true (by omega) | exact decide_eq_false (by omega)
    have g5 : decide (1 < T.length) = true := by have := HTL.out; first | exact decide_eq_true (by omega) | exact decide_eq_false (by omega)
    rw [HAG.out] at d5
    go_wp2_with fail
    refine (CMU.out _).mono ?_
    rintro e w2 ⟨rfl, hw2⟩
    subst hw2
    go_wp2
    clear g4 g5 d0 d1 d2 d3 d4 d5 d6 d7 d8 d9 z0
    go_loopw [10, 58] (fun ov iv wr => ∃ (k : Nat) (R : List (Value × List Int)), k ≤ T.length ∧ iv = .int .i64 k ∧ Hid (R.map Prod.snd = (PL.take k).flatMap fun p => rankP b p nx) ∧ Hid (RankSt w101 wr w.heap.size T k ov R)) (fun _ iv _ => T.length - (RowKit.intOf iv).toNat)
    case atStart => exact ⟨0, [], Nat.zero_le _, rfl, rfl, RankSt.start _ _ _⟩
    case round =>
      obtain ⟨k, R, hk, rfl, hR, HS⟩ := hrel
      have hDr := HS.out.bel.size
      by_cases hlt : k < T.length
      · obtain ⟨y, hy⟩ : ∃ y, T[k]? = some y := ⟨_, List.getElem?_eq_getElem hlt⟩
        have hyp : PL[k]? = some y.2 := by rw [← HPT.out, List.getElem?_map, hy]; rfl
        have hyP : y.2 ∈ PL := List.mem_of_getElem? hyp
        have LLr := HL6.out.below HS.out.bel (Nat.le_refl _)
        have hrow := LLr.2.1 _ (List.mem_of_getElem? hy)
        have hpn2 : y.2.length ≤ n := (HPL.out _ hyP).1
        obtain ⟨pg, pcap, he, hpc, _, cp⟩ := vals_at (x := y.1) (j := k) LLr.1 (by rw [List.getElem?_map, hy]; rfl)
        simp only [Value.slice.injEq, true_and] at he
        obtain ⟨rfl, rfl⟩ := he
        have HBr := Lib.hid (HB6.out.trans (HS.out.bel.mono HB6.out.size))
        have CRk := Lib.hid (CR.out _ HZ.out _ hyP w.heap.size y.1 _ HBr.out hrow)
        have HSU : Hid ((PL.take (k + 1)).flatMap (fun p => rankP b p nx) = R.map Prod.snd ++ rankP b y.2 nx) := by show _ = _; rw [take_flat_succ _ _ _ hyp, hR.out]
        have HRk : Hid (R.length + (rankP b y.2 nx).length ≤ n) := by
          have e1 := congrArg List.length HSU.out
          rw [List.length_append, List.length_map] at e1
          have e2 := take_flat (fun p => rankP b p nx) PL (k + 1)
          have e3 := HRL.out
          show _ ≤ _
          omega
        have hklt : (k : Int) < T.length := by omega
        have HY := Lib.hid hy
        obtain ⟨ya, yc, hyf⟩ := owns_form hrow
        obtain ⟨d0, d1, d2, d3, d4, d5, d6, d7, d8, d9⟩ := (KE.out.next (HS.out.bel)).cells
        clear hyp hyP LLr hrow hR hy
        obtain ⟨p, hp2⟩ : ∃ p, y.2 = p := ⟨_, rfl⟩
        rw [hp2] at hyf CRk HSU HRk hpn2
        have HYF := Lib.hid hyf
        rw [hyf] at CRk cp
        clear hyf hp2
        go_wp2_with fail
        refine CRk.out.mono ?_
        rintro e w7 ⟨rv, T2, rfl, hT2, a1, a2, a3, a4, b4⟩
        have HT2 := Lib.hid hT2
        have hl2 : T2.length = (rankP b p nx).length := by rw [← hT2, List.length_map]
        have hRm : R.length + T2.length ≤ 1048576 := by have := HRk.out; omega
        obtain ⟨gR, hg1, hg2, hg3, hg4⟩ := LL.rec (B := w.heap.size) ⟨owns_mono a1 (by have := HBr.out.size; omega), a2, a3⟩ (by omega)
        have HG1 := Lib.hid hg1
        have HG2 := Lib.hid hg2
        have HG3 := Lib.hid hg3
        have HG4 := Lib.hid hg4
        have HA1 := Lib.hid a1
        have HA2 := Lib.hid a2
        have HA3 := Lib.hid a3
        rw [← HYF.out] at a4
        have HA4 := Lib.hid a4
        have HB4 := Lib.hid b4
        have HLr := Lib.hid (owns_below HS.out.outer b4 (Nat.le_refl _))
        have hsz4 : w101.heap.size ≤ w7.heap.size := Nat.le_trans hDr b4.size
        obtain ⟨rra, rrc, hrf⟩ := owns_form a1
        subst hrf
        clear d0 d1 d2 d3 d4 d5 d6 d7 d8 d9 hT2 a1 a2 a3 a4 b4 hg1 hg2 hg3 hg4 hl2 CRk HRk HBr cp
        go_wp2_with (at_builtin; refine wpList_appendR rfl (.tmp 62) (.tmp 66) 46 rfl w101.heap.size 24 Tryz.underlying46 li lz0 lz1 lz2 rfl (by decide) rfl HLr.out rfl HG1.out HG2.out HG3.out hRm (by omega) hsz4 ?_; intro vv w8 o5 gr5 at5; have O5 := Lib.hid o5; have G5 := Lib.hid gr5; have A5 := Lib.hid at5; clear o5 gr5 at5)
        have O6 := O5.out
        rw [HG4.out] at O6
        have HS8 := Lib.hid (RankSt.step (L := []) HS.out HL6.out HY.out HA1.out HA2.out HA3.out HA4.out HB4.out O6 G5.out A5.out)
        clear O6 O5 G5 A5 HA1 HA2 HA3 HA4 HB4 HLr HS
        go_roundw
        case rel => exact ⟨k + 1, R ++ T2, by omega, by go_num, Lib.hid (by rw [List.map_append, HT2.out]; exact HSU.out.symm), HS8⟩
        case measure => simp [RowKit.intOf]; omega
      · obtain rfl : T.length = k := by omega
        have HRD := Lib.hid (RankSt.done (gv := .slice (some ⟨gq, 0, none⟩) n xc) HS.out HL6.out HB6.out HDW.out)
        rw [hR.out, HTL.out, List.take_length] at HRD
        clear HS hR
        go_wp2
        go_ret
        exact HRD.out

end Go.Proofs.YteciobkjfmddcaaGreatDoor
