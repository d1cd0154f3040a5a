/-
  Packed: TySlTo, TyIntSSt, TyPots.
-/
import Derived.Test.YtmhkkdnopcdibaaQ1
import Derived.Test.YtmhkkdnopcdibaaQ4
import Derived.Test.YtmhkkdnopcdibaaQ6
set_option linter.unusedVariables false
namespace Go.Proofs.Ytmhkkdnopcdibaa
open Go.RowKit

def RowsMk (e : Ty) (w : World) (O : Nat) (d : List e.D) (j : Nat) (ys : List Value) : Prop :=
  ∃ f : Nat → List Nat, (∀ i x, i < j → d[i]? = some x → e.Ow w (O + 1) [ys.getD i undef] x (f i)) ∧ (∀ i, i < j → (f i).Nodup) ∧ (∀ i k, i < j → k < j → i ≠ k → ∀ q, q ∈ f i → q ∉ f k) ∧ ∀ i, i < j → ∀ q, q ∈ f i → O < q ∧ q < w.heap.size
theorem RowsMk.nil {e : Ty} {w : World} {O : Nat} {d : List e.D} {ys : List Value} : RowsMk e w O d 0 ys :=
  ⟨fun _ => [], fun i _ h => absurd h (Nat.not_lt_zero _), fun i h => absurd h (Nat.not_lt_zero _), fun i _ h => absurd h (Nat.not_lt_zero _), fun i h => absurd h (Nat.not_lt_zero _)⟩
theorem RowsMk.next {e : Ty} {w u w' : World} {O : Nat} {d : List e.D} {j : Nat} {ys : List Value} {v : Value} {x : e.D} (h : RowsMk e w O d j ys) (hO : O < w.heap.size) (hb : Below w.heap.size w u) (ho : OwN e u w.heap.size u.heap.size [v] x)
    (hx : d[j]? = some x) (hj : j < ys.length) (hs : u.heap.size ≤ w'.heap.size) (hk : ∀ q, q ≠ O → q < u.heap.size → w'.heap[q]? = u.heap[q]?) : RowsMk e w' O d (j + 1) (ys.set j v) := by
  obtain ⟨f, h1, h2, h3, h4⟩ := h
  obtain ⟨bs, b1, b2, b3, _⟩ := ho
  have b4 := e.ow_lt b1
  have hsz := hb.size
  obtain ⟨F, hF1, hF2⟩ : ∃ F : Nat → List Nat, F j = bs ∧ ∀ i, i ≠ j → F i = f i := ⟨fun i => if i = j then bs else f i, if_pos rfl, fun i h => if_neg h⟩
  refine ⟨F, fun i y hi hy => ?_, fun i hi => ?_, fun i k hi hkk hik q hq => ?_, fun i hi q hq => ?_⟩
  · by_cases e1 : i = j
    · subst e1
      rw [hx] at hy
      obtain rfl := Option.some.inj hy
      rw [hF1]
      have e2 : (ys.set i v).getD i undef = v := by simp [List.getD_eq_getElem?_getD, hj]
      rw [e2]
      exact e.ow_mono (e.ow_frame b1 (fun q hq => hk q (by have := (b4 q hq).1; omega) (b4 q hq).2) hs) (by omega)
    · rw [hF2 i e1]
      have e2 : (ys.set j v).getD i undef = ys.getD i undef := by simp [List.getD_eq_getElem?_getD, Ne.symm e1]
      rw [e2]
      refine e.ow_frame (h1 i y (by omega) hy) (fun q hq => ?_) (Nat.le_trans hsz hs)
      have h5 := h4 i (by omega) q hq
      exact (hk q (by omega) (by omega)).trans (hb.block q h5.2)
  · by_cases e1 : i = j
    · rw [e1, hF1]; exact b2
    · rw [hF2 i e1]; exact h2 i (by omega)
  · by_cases e1 : i = j
    · rw [e1, hF1] at hq
      rw [hF2 k (by omega)]
      intro hq2
      have := h4 k (by omega) q hq2
      have := (b4 q hq).1
      omega
    · rw [hF2 i e1] at hq
      have h5 := h4 i (by omega) q hq
      by_cases e2 : k = j
      · rw [e2, hF1]; intro hq2; have := (b4 q hq2).1; omega
      · rw [hF2 k e2]; exact h3 i k (by omega) (by omega) hik q hq
  · by_cases e1 : i = j
    · rw [e1, hF1] at hq
      have := b4 q hq
      exact ⟨by omega, by omega⟩
    · rw [hF2 i e1] at hq
      have := h4 i (by omega) q hq
      exact ⟨this.1, by omega⟩
theorem flat_nodup_of {f : Nat → List Nat} : ∀ n, (∀ i, i < n → (f i).Nodup) → (∀ i k, i < n → k < n → i ≠ k → ∀ q, q ∈ f i → q ∉ f k) → ((List.range n).flatMap f).Nodup
  | 0, _, _ => List.nodup_nil
  | n + 1, h1, h2 => by
    rw [range_flat_succ]
    refine List.nodup_append.2 ⟨flat_nodup_of n (fun i hi => h1 i (by omega)) (fun i k hi hk => h2 i k (by omega) (by omega)), h1 n (Nat.lt_succ_self _), fun a ha b hb e => ?_⟩
    subst e
    obtain ⟨i, hi, ha⟩ := List.mem_flatMap.1 ha
    have := List.mem_range.1 hi
    exact h2 i n (by omega) (Nat.lt_succ_self _) (by omega) a ha hb
theorem RowsMk.own {t : TypeId} {e : Ty} {w : World} {O n c : Nat} {d : List e.D} {ys : List Value} (he : e.n = 1) (hn : d.length = n) (h : RowsMk e w O d n ys) (ho : w.ownsRow O t 1 (.slice (some ⟨O, 0, none⟩) n c) n ys) (hO : O < w.heap.size) :
    OwN (tSl t e) w O w.heap.size [.slice (some ⟨O, 0, none⟩) n c] d := by
  subst hn
  obtain ⟨f, h1, h2, h3, h4⟩ := h
  have hl := ho.1
  rw [Nat.mul_one] at hl
  refine ⟨O :: (List.range d.length).flatMap f, ⟨_, ys, f, rfl, by rw [he]; exact ho, fun i x hx => ?_, rfl⟩, List.nodup_cons.2 ⟨fun hm => ?_, flat_nodup_of _ h2 h3⟩, fun q hq => ?_, Nat.le_refl _⟩
  · have hi := (List.getElem?_eq_some_iff.1 hx).1
    rw [he, Nat.mul_one, List.drop_eq_getElem_cons (by omega : i < ys.length)]
    have h5 := h1 i x hi hx
    rw [List.getD_eq_getElem?_getD, List.getElem?_eq_getElem (by omega : i < ys.length)] at h5
    exact e.ow_mono h5 (Nat.le_succ _)
  · obtain ⟨i, hi, hq⟩ := List.mem_flatMap.1 hm
    have := h4 i (List.mem_range.1 hi) O hq
    omega
  · rcases List.mem_cons.1 hq with rfl | hq
    · exact hO
    · obtain ⟨i, hi, hq⟩ := List.mem_flatMap.1 hq
      exact (h4 i (List.mem_range.1 hi) q hq).2
end Go.Proofs.Ytmhkkdnopcdibaa
set_option linter.unusedVariables false
namespace Go.Proofs.Ytmhkkdnopcdibaa
open Go.RowKit

set_option maxRecDepth 100000 in
set_option maxHeartbeats 2000000 in
theorem y_sz_IntSS (v : Value) (d : List tIntS.D) (left : Int) (w : World) (hl0 : 0 ≤ left) (hl : left ≤ 1048576) (h : RdA tIntSS w [v] d) : Calls Try.prog 56 #[v, .int .i64 left] w (SzT tIntSS d left w) := by
  obtain ⟨a, cap, rfl, hn⟩ := rd_row_form h
  have HV := Lib.hid h
  clear h
  obtain ⟨n, hd⟩ : ∃ n, d.length = n := ⟨_, rfl⟩
  have HD := Lib.hid hd
  have HW : Hid ((tIntSS.wt d : Int) = n + ((d.map tIntS.wt).sum : Nat)) := by show _ = _; rw [← hd]; show ((d.length + (d.map tIntS.wt).sum : Nat) : Int) = _; omega
  rw [hd] at hn ⊢
  clear hd
  have s0 : IntKind.i64.wrap (left - (n : Int)) = left - n := IntWalk.i64_in _ (by omega)
  by_cases hb : left - (n : Int) < 0
  · have g0 : decide (left - (n : Int) < 0) = true := decide_eq_true hb
    go_enter Try.func56, Try.ntmps56
    go_wp2
    go_ret
    exact ⟨⟨-1, rfl, .inl (by omega)⟩, Below.refl _ _⟩
  have g0 : decide (left - (n : Int) < 0) = false := decide_eq_false hb
  go_enter Try.func56, Try.ntmps56
  go_wp2
  go_loopw [1, 5] (fun lv iv wr => ∃ (j : Nat) (l : Int), j ≤ n ∧ iv = .int .i64 j ∧ lv = .int .i64 l ∧ (0 ≤ l ∧ l ≤ 1048576) ∧ Hid ((n : Int) + (((d.take j).map tIntS.wt).sum : Nat) + l = left) ∧ Hid (Below w.heap.size w wr)) (fun _ iv _ => n - (RowKit.intOf iv).toNat)
  case atStart => exact ⟨0, left - n, Nat.zero_le _, rfl, rfl, ⟨by omega, by omega⟩, (by show _ = _; simp; omega), Below.refl _ _⟩
  case round =>
    obtain ⟨j, l, hj, rfl, rfl, hl2, HS, HB⟩ := hrel
    by_cases hlt : j < n
    · obtain ⟨y, hy⟩ : ∃ y, d[j]? = some y := ⟨_, List.getElem?_eq_getElem (by have := HD.out; omega)⟩
      obtain ⟨b, off, k, u, hv, hcap, hc, hu⟩ := rd_cell rfl (RdA.below HV.out HB.out) hy
      simp only [Value.slice.injEq] at hv
      obtain ⟨rfl, hv2, rfl⟩ := hv
      clear hv2
      rw [HD.out] at hcap
      have hj1 : (j : Int) < (n : Int) := by omega
      have c0 : wr.cell? ⟨b, off + j, none⟩ = some u := hc.2 0 _ rfl
      have HU := Lib.hid hu
      have hts := take_sum (f := tIntS.wt) hy
      have HTS := Lib.hid hts
      clear hc hu hts hy
      go_wp2_with fail
      refine (y_sz_IntS u y l _ hl2.1 hl2.2 HU.out).mono ?_
      rintro e w2 ⟨⟨r, rfl, hr⟩, b2⟩
      have HB2 := Lib.hid (HB.out.trans (b2.mono HB.out.size))
      have HSS : Hid (r < 0 ∨ (0 ≤ r ∧ r ≤ l ∧ (n : Int) + (((d.take (j + 1)).map tIntS.wt).sum : Nat) + r = left)) := by
        rcases hr with hr | ⟨h1, h2⟩
        · exact .inl hr
        · exact .inr ⟨h1, by omega, by have h3 := HS.out; rw [HTS.out]; omega⟩
      clear b2 hr HB HS HTS HU
      by_cases hr0 : r < 0
      · have g1 : decide (r < 0) = true := decide_eq_true hr0
        go_wp2
        go_ret
        exact ⟨⟨-1, rfl, .inl (by omega)⟩, HB2.out⟩
      have g1 : decide (r < 0) = false := decide_eq_false hr0
      have HS3 := HSS.out.resolve_left hr0
      have HS4 : Hid ((n : Int) + (((d.take (j + 1)).map tIntS.wt).sum : Nat) + r = left) := HS3.2.2
      have hr1 : 0 ≤ r ∧ r ≤ 1048576 := ⟨HS3.1, by have := HS3.2.1; omega⟩
      clear HSS HS3
      go_wp2
      go_roundw
      case rel => exact ⟨j + 1, r, by omega, by go_num, rfl, hr1, HS4, HB2⟩
      case measure => simp [RowKit.intOf]; omega
    · obtain rfl : j = n := by omega
      have HE : Hid ((tIntSS.wt d : Int) + l = left) := by
        show _ = _
        have h1 := HS.out
        rw [List.take_of_length_le (by have := HD.out; omega)] at h1
        rw [HW.out]; exact h1
      go_wp2
      go_ret
      exact ⟨⟨l, rfl, .inr ⟨hl2.1, HE.out⟩⟩, HB.out⟩
theorem y_form_IntS {w : World} {lo hi : Nat} {v : Value} {d : tIntS.D} (h : OwN tIntS w lo hi [v] d) : ∃ a c, v = .slice a (List.length d) c := by
  have h1 : RdA tIntS w [v] d := Ty.rd_mono _ (OwN.rd h) fun q hq => Nat.lt_of_lt_of_le hq.2 (OwN.hi_le h)
  obtain ⟨a, c, e, _⟩ := rd_row_form h1
  exact ⟨a, c, e⟩
theorem Try.infoIntSS : (Try.prog.info? 31).map (fun i => (i.zero, i.size, i.bytes)) = some (some (.slice none 0 0), 1, 24) := by kernel_rfl
set_option maxRecDepth 100000 in
set_option maxHeartbeats 2000000 in
theorem y_to_IntSS (v : Value) (d : List tIntS.D) (w : World) (h : RdA tIntSS w [v] d) (hw : tIntSS.wt d ≤ 1048576) : Calls Try.prog 62 #[v] w (MadeT tIntSS d w) := by
  obtain ⟨i0, hi, hz0, hz1, hz2⟩ := info_parts Try.infoIntSS
  obtain ⟨a, cap, rfl, hn⟩ := rd_row_form h
  have HV := Lib.hid h
  clear h
  obtain ⟨n, hd⟩ : ∃ n, d.length = n := ⟨_, rfl⟩
  have HD := Lib.hid hd
  have hwe : tIntSS.wt d = d.length + (d.map tIntS.wt).sum := rfl
  have hn6 : n ≤ 1048576 := by omega
  have HE : Hid (∀ j y, d[j]? = some y → tIntS.wt y ≤ 1048576) := fun j y hy => by
    have h1 := take_sum (f := tIntS.wt) hy
    have h2 := take_sum_le (f := tIntS.wt) (L := d) (j + 1)
    omega
  rw [hd] at hn ⊢
  clear hd hwe hw
  go_enter Try.func62, Try.ntmps62
  go_wp2_with (at_make; refine wpList_make_full _ rfl _ _ 24 rfl w.heap.size 31 i0 (.slice none 0 0) 1 Try.underlying24 hi hz0 hz1 .i64 .i64 n n n rfl rfl rfl rfl (by rw [hz2]; omega) (by unfold maxLen; omega) (Nat.le_refl _) ?_; intro w1 hown hg1)
  have hb1 : Below w.heap.size w w1 := (Below.refl _ _).grown hg1 (Nat.le_refl _) (fun k hk => by cases hk)
  have hlt1 : w.heap.size < w1.heap.size := (hown.lt w.heap.size rfl).2
  have HB1 := Lib.hid hb1
  have HO1 := Lib.hid hown
  clear hg1 hb1 hown
  go_loopw [4] (fun iv wr => ∃ (j : Nat) (ys : List Value), j ≤ n ∧ iv = .int .i64 j ∧ w.heap.size < wr.heap.size ∧ Hid (wr.ownsRow w.heap.size 31 1 (.slice (some ⟨w.heap.size, 0, none⟩) n n) n ys) ∧ Hid (RowsMk tIntS wr w.heap.size d j ys) ∧ Hid (Below w.heap.size w wr)) (fun iv _ => n - (RowKit.intOf iv).toNat)
  case atStart => exact ⟨0, _, Nat.zero_le _, rfl, hlt1, HO1, RowsMk.nil, HB1⟩
  case round =>
    clear HO1 HB1 hlt1
    obtain ⟨j, ys, hj, rfl, hO, HO, HR, HB⟩ := hrel
    by_cases hlt : j < n
    · obtain ⟨y, hy⟩ : ∃ y, d[j]? = some y := ⟨_, List.getElem?_eq_getElem (by have := HD.out; omega)⟩
      obtain ⟨b, off, k, u, hv, hcap, hc, hu⟩ := rd_cell rfl (RdA.below HV.out HB.out) hy
      simp only [Value.slice.injEq] at hv
      obtain ⟨rfl, hv2, rfl⟩ := hv
      clear hv2
      rw [HD.out] at hcap
      have hj1 : (j : Int) < (n : Int) := by omega
      have c0 : wr.cell? ⟨b, off + j, none⟩ = some u := hc.2 0 _ rfl
      have HU := Lib.hid hu
      have HY := Lib.hid hy
      have HYW := Lib.hid (HE.out j y hy)
      have HYL : Hid (j < ys.length) := by have := HO.out.1; show _ < _; omega
      clear hc hu hy
      go_wp2_with (go_at_call 30; refine (y_to_IntS u y _ HU.out HYW.out).mono ?_; rintro e w2 ⟨v2, rfl, ho2, b2⟩; obtain ⟨xa, xc, hvf⟩ := y_form_IntS ho2; subst hvf; have hown2 := owns_below HO.out b2 (Nat.le_refl _); obtain ⟨u0, e0⟩ := owns_cellR hown2 j (by omega); have f0 := hown2.frozenAt j)
      go_roundw
      case rel =>
        have hs2 := b2.size
        refine ⟨j + 1, _, by omega, by go_num, (by have h9 : w2.heap.size ≤ (w2.setCell ⟨w.heap.size, j, none⟩ (.slice xa (List.length y) xc)).heap.size := by simp [World.setCell]
                                                   omega), (hown2.stored j _).1, ?_, (HB.out.trans (b2.mono HB.out.size)).setCell (Nat.le_refl _) _⟩
        exact HR.out.next hO b2 ho2 HY.out HYL.out (Nat.le_of_eq (by simp [World.setCell])) fun q hq _ => Below.heap_setCell _ _ _ _ hq
      case measure => simp [RowKit.intOf]; omega
    · obtain rfl : j = n := by omega
      go_wp2
      go_ret
      exact ⟨_, rfl, RowsMk.own rfl HD.out HR.out HO.out hO, HB.out⟩
end Go.Proofs.Ytmhkkdnopcdibaa
set_option linter.unusedVariables false
namespace Go.Proofs.Ytmhkkdnopcdibaa
open Go.RowKit

def tPots : Ty := tTwo tIntSS (tTwo tInt tInt)
theorem opens_Pots : Opens Try.prog 41 tPots := opens_struct Try.underlying41 (by kernel_rfl) ⟨rfl, _, _, rfl, opens_IntSS, ⟨rfl, _, _, rfl, (opens_int Try.underlying3 (by kernel_rfl)), ⟨rfl, (opens_int Try.underlying3 (by kernel_rfl))⟩⟩⟩
set_option maxRecDepth 100000 in
set_option maxHeartbeats 2000000 in
theorem y_sz_Pots (vx_Pots : Value) (x_Groups : Int) (x_Most : Int) (d : tPots.D) (left : Int) (w : World) (hl0 : 0 ≤ left) (hl : left ≤ 1048576) (h : RdA tPots w [vx_Pots, .int .i64 x_Groups, .int .i64 x_Most] d) : Calls Try.prog 23 #[.agg #[vx_Pots, .int .i64 x_Groups, .int .i64 x_Most], .int .i64 left] w (SzT tPots d left w) := by
  have hwt : tPots.wt d = (tIntSS.wt d.1 + (tInt.wt d.2.1 + tInt.wt d.2.2)) := rfl
  have hz1 : tInt.wt d.2.1 = 0 := rfl
  have hz2 : tInt.wt d.2.2 = 0 := rfl
  have P0 : RdA tIntSS w [vx_Pots] d.1 := (rd_split h).1
  have Pt0 := (rd_split h).2
  have P1 : RdA tInt w [.int .i64 x_Groups] d.2.1 := (rd_split Pt0).1
  have Pt1 := (rd_split Pt0).2
  have P2 : RdA tInt w [.int .i64 x_Most] d.2.2 := Pt1
  clear Pt0 Pt1
  have HP0 := Lib.hid P0
  obtain ⟨W0, hW0⟩ : ∃ z, tIntSS.wt d.1 = z := ⟨_, rfl⟩
  unfold SzT
  rw [hwt]
  rw [hz1, hz2]
  clear hwt h P0 P1 P2 hz1 hz2
  have HB0 : Hid (Below w.heap.size w (w.alloc (.cells #[vx_Pots, .int .i64 x_Groups, .int .i64 x_Most] 41))) := (Below.refl _ _).alloc (Nat.le_refl _) _
  have BX0 : Hid (BoxN (w.alloc (.cells #[vx_Pots, .int .i64 x_Groups, .int .i64 x_Most] 41)) w.heap.size [vx_Pots, .int .i64 x_Groups, .int .i64 x_Most]) := BoxN.made (Below.refl _ _) rfl
  have c0 := BX0.out.2 0 _ rfl
  have c1 := BX0.out.2 1 _ rfl
  have c2 := BX0.out.2 2 _ rfl
  go_enter Try.func23, Try.ntmps23
  go_wp2_with fail
  refine (y_sz_IntSS vx_Pots d.1 left _ (by omega) (by omega) (RdA.below HP0.out HB0.out)).mono ?_
  rintro e w1 ⟨⟨r1, rfl, hr1⟩, b1⟩
  rw [hW0] at hr1
  have HB1 := Lib.hid (HB0.out.trans (b1.mono HB0.out.size))
  have BX1 := Lib.hid (BX0.out.below b1)
  clear c0 c1 c2 BX0 b1
  have c0 := BX1.out.2 0 _ rfl
  have c1 := BX1.out.2 1 _ rfl
  have c2 := BX1.out.2 2 _ rfl
  by_cases hn1 : r1 < 0
  · have g2 : decide (r1 < 0) = true := decide_eq_true hn1
    have HE := Lib.hid HB1.out
    clear hr1
    go_wp2
    go_ret
    exact ⟨⟨-1, rfl, .inl (by omega)⟩, HE.out⟩
  have g1 : decide (r1 < 0) = false := decide_eq_false hn1
  replace hn1 : 0 ≤ r1 ∧ (W0 : Int) + r1 = left := by omega
  clear hr1
  have HE := Lib.hid HB1.out
  go_wp2
  go_ret
  refine ⟨⟨_, rfl, .inr ⟨by omega, ?_⟩⟩, HE.out⟩
  rw [hW0]
  omega
set_option maxRecDepth 100000 in
set_option maxHeartbeats 2000000 in
theorem y_eq_Pots (vx_Pots : Value) (x_Groups : Int) (x_Most : Int) (vx_Pots' : Value) (d : tPots.D) (w : World) (h : RdA tPots w [vx_Pots, .int .i64 x_Groups, .int .i64 x_Most] d) (h' : RdA tPots w [vx_Pots', .int .i64 x_Groups, .int .i64 x_Most] d) : Calls Try.prog 28 #[.agg #[vx_Pots, .int .i64 x_Groups, .int .i64 x_Most], .agg #[vx_Pots', .int .i64 x_Groups, .int .i64 x_Most]] w fun e w' => e = .returned (.bool true) ∧ Below w.heap.size w w' := by
  have P0 : RdA tIntSS w [vx_Pots] d.1 := (rd_split h).1
  have Pt0 := (rd_split h).2
  have P1 : RdA tInt w [.int .i64 x_Groups] d.2.1 := (rd_split Pt0).1
  have Pt1 := (rd_split Pt0).2
  have P2 : RdA tInt w [.int .i64 x_Most] d.2.2 := Pt1
  clear Pt0 Pt1
  have Q0 : RdA tIntSS w [vx_Pots'] d.1 := (rd_split h').1
  have Qt0 := (rd_split h').2
  have Q1 : RdA tInt w [.int .i64 x_Groups] d.2.1 := (rd_split Qt0).1
  have Qt1 := (rd_split Qt0).2
  have Q2 : RdA tInt w [.int .i64 x_Most] d.2.2 := Qt1
  clear Qt0 Qt1
  have HP0 := Lib.hid P0
  have HQ0 := Lib.hid Q0
  have HB0 : Hid (Below w.heap.size w ((w.alloc (.cells #[vx_Pots, .int .i64 x_Groups, .int .i64 x_Most] 26)).alloc (.cells #[vx_Pots', .int .i64 x_Groups, .int .i64 x_Most] 26))) := ((Below.refl _ _).alloc (Nat.le_refl _) _).alloc (by simp) _
  have BX0 : Hid (BoxN ((w.alloc (.cells #[vx_Pots, .int .i64 x_Groups, .int .i64 x_Most] 26)).alloc (.cells #[vx_Pots', .int .i64 x_Groups, .int .i64 x_Most] 26)) w.heap.size [vx_Pots, .int .i64 x_Groups, .int .i64 x_Most]) := BoxN.below (BoxN.made (Below.refl _ _) rfl) ((Below.refl _ _).alloc (Nat.le_refl _) _)
  have BY0 : Hid (BoxN ((w.alloc (.cells #[vx_Pots, .int .i64 x_Groups, .int .i64 x_Most] 26)).alloc (.cells #[vx_Pots', .int .i64 x_Groups, .int .i64 x_Most] 26)) (w.heap.size + 1) [vx_Pots', .int .i64 x_Groups, .int .i64 x_Most]) := BoxN.made (Below.refl _ _) (by simp)
  clear h h' P0 Q0 P1 Q1 P2 Q2
  have c0 := BX0.out.2 0 _ rfl
  have c1 := BX0.out.2 1 _ rfl
  have c2 := BX0.out.2 2 _ rfl
  have e0 := BY0.out.2 0 _ rfl
  have e1 := BY0.out.2 1 _ rfl
  have e2 := BY0.out.2 2 _ rfl
  have bl := BX0.out.1
  have bm := BY0.out.1
  go_enter Try.func28, Try.ntmps28
  go_wp2_with fail
  refine (y_eq_IntSS vx_Pots vx_Pots' d.1 _ (RdA.below HP0.out HB0.out) (RdA.below HQ0.out HB0.out)).mono ?_
  rintro e w1 ⟨rfl, b1⟩
  have HB1 := Lib.hid (HB0.out.trans (b1.mono HB0.out.size))
  have BX1 := Lib.hid (BX0.out.below b1)
  have BY1 := Lib.hid (BY0.out.below b1)
  clear c0 c1 c2 e0 e1 e2 bl bm BX0 BY0 b1
  have c0 := BX1.out.2 0 _ rfl
  have c1 := BX1.out.2 1 _ rfl
  have c2 := BX1.out.2 2 _ rfl
  have e0 := BY1.out.2 0 _ rfl
  have e1 := BY1.out.2 1 _ rfl
  have e2 := BY1.out.2 2 _ rfl
  have bl := BX1.out.1
  have bm := BY1.out.1
  have HE := Lib.hid HB1.out
  go_wp2
  go_ret
  exact ⟨rfl, HE.out⟩
set_option maxRecDepth 100000 in
set_option maxHeartbeats 4000000 in
theorem y_to_Pots (vx_Pots : Value) (x_Groups : Int) (x_Most : Int) (d : tPots.D) (w : World) (h : RdA tPots w [vx_Pots, .int .i64 x_Groups, .int .i64 x_Most] d) (hw : tPots.wt d ≤ 1048576) : Calls Try.prog 26 #[.agg #[vx_Pots, .int .i64 x_Groups, .int .i64 x_Most]] w (fun e w' => ∃ vx_Pots' : Value, e = .returned (.agg #[vx_Pots', .int .i64 x_Groups, .int .i64 x_Most]) ∧ OwN tPots w' w.heap.size w'.heap.size [vx_Pots', .int .i64 x_Groups, .int .i64 x_Most] d ∧ Below w.heap.size w w') := by
  have P0 : RdA tIntSS w [vx_Pots] d.1 := (rd_split h).1
  have Pt0 := (rd_split h).2
  have P1 : RdA tInt w [.int .i64 x_Groups] d.2.1 := (rd_split Pt0).1
  have Pt1 := (rd_split Pt0).2
  have P2 : RdA tInt w [.int .i64 x_Most] d.2.2 := Pt1
  clear Pt0 Pt1
  have HP0 := Lib.hid P0
  have HP1 := Lib.hid P1
  have HP2 := Lib.hid P2
  have hwt : tPots.wt d = (tIntSS.wt d.1 + (tInt.wt d.2.1 + tInt.wt d.2.2)) := rfl
  rw [hwt] at hw
  have hw0 : tIntSS.wt d.1 ≤ 1048576 := by omega
  have HW0 := Lib.hid hw0
  clear hw hwt hw0
  have HB0 : Hid (Below w.heap.size w (((w.alloc (.cells #[vx_Pots, .int .i64 x_Groups, .int .i64 x_Most] 41)).alloc (.cells #[.slice none 0 0, .int .i64 0, .int .i64 0] 26)).alloc (.cells #[.slice none 0 0, .int .i64 0, .int .i64 0] 26))) := (((Below.refl _ _).alloc (Nat.le_refl _) _).alloc (by simp) _).alloc (by simp <;> omega) _
  have BX0 : Hid (BoxN (((w.alloc (.cells #[vx_Pots, .int .i64 x_Groups, .int .i64 x_Most] 41)).alloc (.cells #[.slice none 0 0, .int .i64 0, .int .i64 0] 26)).alloc (.cells #[.slice none 0 0, .int .i64 0, .int .i64 0] 26)) w.heap.size [vx_Pots, .int .i64 x_Groups, .int .i64 x_Most]) := BoxN.below (BoxN.below (BoxN.made (Below.refl _ _) rfl) ((Below.refl _ _).alloc (Nat.le_refl _) _)) ((Below.refl _ _).alloc (Nat.le_refl _) _)
  have RS0 : Hid (ResAt (((w.alloc (.cells #[vx_Pots, .int .i64 x_Groups, .int .i64 x_Most] 41)).alloc (.cells #[.slice none 0 0, .int .i64 0, .int .i64 0] 26)).alloc (.cells #[.slice none 0 0, .int .i64 0, .int .i64 0] 26)) (w.heap.size + 1) 3) := ResAt.below (ResAt.made' (by simp) rfl) ((Below.refl _ _).alloc (Nat.le_refl _) _)
  have BO0 : Hid (BoxF (((w.alloc (.cells #[vx_Pots, .int .i64 x_Groups, .int .i64 x_Most] 41)).alloc (.cells #[.slice none 0 0, .int .i64 0, .int .i64 0] 26)).alloc (.cells #[.slice none 0 0, .int .i64 0, .int .i64 0] 26)) (w.heap.size + 2) [.slice none 0 0, .int .i64 0, .int .i64 0]) := BoxF.made (Below.refl _ _) (by simp)
  clear h P0 P1 P2
  have c0 := BX0.out.2 0 _ rfl
  have c1 := BX0.out.2 1 _ rfl
  have c2 := BX0.out.2 2 _ rfl
  have o0 := BO0.out.2 0 _ rfl
  have o1 := BO0.out.2 1 _ rfl
  have o2 := BO0.out.2 2 _ rfl
  have bl := BX0.out.1
  have bm := BO0.out.1
  have bn := RS0.out.lt
  obtain ⟨⟨z0, q0⟩, y0⟩ := RS0.out.at 0 (by omega)
  obtain ⟨⟨z1, q1⟩, y1⟩ := RS0.out.at 1 (by omega)
  obtain ⟨⟨z2, q2⟩, y2⟩ := RS0.out.at 2 (by omega)
  go_enter Try.func26, Try.ntmps26
  go_wp2_with fail
  clear c0 o0 q0 y0 c1 o1 q1 y1 c2 o2 q2 y2 bl bm bn
  refine (y_to_IntSS vx_Pots d.1 _ (RdA.below HP0.out HB0.out) HW0.out).mono ?_
  rintro e w1 ⟨u0_0, rfl, ho1, b1⟩
  have hs1 := b1.size
  have hS1 : w.heap.size + 3 ≤ w1.heap.size := by simp at hs1; omega
  have HBc1 := Lib.hid (HB0.out.trans (b1.mono HB0.out.size))
  have BXc1 := Lib.hid (BX0.out.below b1)
  have RSc1 := Lib.hid (RS0.out.below b1)
  have BOc1 := Lib.hid (BO0.out.below b1)
  have O0_c1 := Lib.hid (ho1.mono (lo' := w.heap.size + 3) (hi' := w1.heap.size) (by simp) (Nat.le_refl _) (Nat.le_refl _))
  clear HB0 BX0 RS0 BO0 hs1 b1 ho1
  obtain ⟨au0_0, nu0_0, ku0_0, hu0_0⟩ := rd_slice O0_c1.out.rd
  subst hu0_0
  have c0 := BXc1.out.2 0 _ rfl
  have c1 := BXc1.out.2 1 _ rfl
  have c2 := BXc1.out.2 2 _ rfl
  have o0 := BOc1.out.2 0 _ rfl
  have o1 := BOc1.out.2 1 _ rfl
  have o2 := BOc1.out.2 2 _ rfl
  have bl := BXc1.out.1
  have bm := BOc1.out.1
  have bn := RSc1.out.lt
  obtain ⟨⟨z0, q0⟩, y0⟩ := RSc1.out.at 0 (by omega)
  obtain ⟨⟨z1, q1⟩, y1⟩ := RSc1.out.at 1 (by omega)
  obtain ⟨⟨z2, q2⟩, y2⟩ := RSc1.out.at 2 (by omega)
  go_wp2
  (try simp only [Exit.inBlock, Exit.then])
  refine post_named fun w99 hw99 => ?_
  clear c0 o0 q0 y0 c1 o1 q1 y1 c2 o2 q2 y2 bl bm bn
  have HBs1 := Lib.hid (HBc1.out.setCell (p := ⟨w.heap.size + 2, 0, none⟩) (by simp) (.slice au0_0 nu0_0 ku0_0))
  have BXs1 := Lib.hid (BXc1.out.elsewhere (D := w.heap.size + 2) 0 (.slice au0_0 nu0_0 ku0_0) (by omega))
  have RSs1 := Lib.hid (RSc1.out.elsewhere (D := w.heap.size + 2) 0 (.slice au0_0 nu0_0 ku0_0) (by omega))
  have BOs1 := Lib.hid (BOc1.out.set 0 (.slice au0_0 nu0_0 ku0_0) (by simp))
  have O0_s1 := Lib.hid (O0_c1.out.touch ((Touch.refl (w.heap.size + 2) (w.heap.size + 3) _).setCell ⟨w.heap.size + 2, 0, none⟩ (.slice au0_0 nu0_0 ku0_0) (by simp) (by simp)) (.inr (by omega)))
  clear HBc1 BXc1 RSc1 BOc1 O0_c1
  have HBs2 := Lib.hid (HBs1.out.setCell (p := ⟨w.heap.size + 2, 1, none⟩) (by simp) (.int .i64 x_Groups))
  have BXs2 := Lib.hid (BXs1.out.elsewhere (D := w.heap.size + 2) 1 (.int .i64 x_Groups) (by omega))
  have RSs2 := Lib.hid (RSs1.out.elsewhere (D := w.heap.size + 2) 1 (.int .i64 x_Groups) (by omega))
  have BOs2 := Lib.hid (BOs1.out.set 1 (.int .i64 x_Groups) (by simp))
  have O0_s2 := Lib.hid (O0_s1.out.touch ((Touch.refl (w.heap.size + 2) (w.heap.size + 3) _).setCell ⟨w.heap.size + 2, 1, none⟩ (.int .i64 x_Groups) (by simp) (by simp)) (.inr (by omega)))
  clear HBs1 BXs1 RSs1 BOs1 O0_s1
  have HBs3 := Lib.hid (HBs2.out.setCell (p := ⟨w.heap.size + 2, 2, none⟩) (by simp) (.int .i64 x_Most))
  have BXs3 := Lib.hid (BXs2.out.elsewhere (D := w.heap.size + 2) 2 (.int .i64 x_Most) (by omega))
  have RSs3 := Lib.hid (RSs2.out.elsewhere (D := w.heap.size + 2) 2 (.int .i64 x_Most) (by omega))
  have BOs3 := Lib.hid (BOs2.out.set 2 (.int .i64 x_Most) (by simp))
  have O0_s3 := Lib.hid (O0_s2.out.touch ((Touch.refl (w.heap.size + 2) (w.heap.size + 3) _).setCell ⟨w.heap.size + 2, 2, none⟩ (.int .i64 x_Most) (by simp) (by simp)) (.inr (by omega)))
  clear HBs2 BXs2 RSs2 BOs2 O0_s2
  have HX9 := RSs3.out.put (vs := [.slice au0_0 nu0_0 ku0_0, .int .i64 x_Groups, .int .i64 x_Most]) rfl
  have HB9 := Below.putCs (C := w.heap.size) (B := w.heap.size + 1) (by omega) [.slice au0_0 nu0_0 ku0_0, .int .i64 x_Groups, .int .i64 x_Most] 0 _ _ HBs3.out
  have O0_9 := O0_s3.out.touch (Touch.putCs (lo := w.heap.size + 1) (hi := w.heap.size + 2) (B := w.heap.size + 1) (by omega) (by omega) [.slice au0_0 nu0_0 ku0_0, .int .i64 x_Groups, .int .i64 x_Most] 0 _ _ (Touch.refl _ _ _)) (.inr (by omega))
  have e99 : w99 = putCs _ (w.heap.size + 1) 0 [.slice au0_0 nu0_0 ku0_0, .int .i64 x_Groups, .int .i64 x_Most] := hw99.out
  rw [← e99] at HX9 HB9 O0_9
  clear hw99 e99
  have h9 : w1.heap.size ≤ w99.heap.size := O0_9.hi_le
  have HD : OwN tPots w99 (w.heap.size + 3) w1.heap.size [.slice au0_0 nu0_0 ku0_0, .int .i64 x_Groups, .int .i64 x_Most] (d.1, x_Groups, x_Most) := (OwN.two O0_9 (OwN.two (OwN.int w99 x_Groups (lo := w1.heap.size) (hi := w1.heap.size) (by omega)) (OwN.int w99 x_Most (lo := w1.heap.size) (hi := w1.heap.size) (by omega)) (by omega) (by omega)) (by omega) (by omega))
  have hd1 : d.2.1 = x_Groups := scalar_int HP1.out
  have hd2 : d.2.2 = x_Most := scalar_int HP2.out
  have hdd : ((d.1, x_Groups, x_Most) : tPots.D) = d := by
    rw [← hd1, ← hd2]
    rfl
  rw [hdd] at HD
  have HD9 := Lib.hid (HD.mono (lo' := w.heap.size) (hi' := w99.heap.size) (by omega) h9 (Nat.le_refl _))
  have HB99 := Lib.hid HB9
  have HX99 := Lib.hid HX9
  clear HB9 HX9 HD hdd hd1 hd2
  have x0 := (HX99.out.2 0 _ rfl).1
  have x1 := (HX99.out.2 1 _ rfl).1
  have x2 := (HX99.out.2 2 _ rfl).1
  have x_lt := HX99.out.1
  refine bodyPost_ret (v := .agg #[.slice au0_0 nu0_0 ku0_0, .int .i64 x_Groups, .int .i64 x_Most]) ?_ rfl ⟨.slice au0_0 nu0_0 ku0_0, rfl, HD9.out, HB99.out⟩
  rw [results_cell rfl]
  go_simp
def cnt_Pots (d : tPots.D) : Nat := (tIntSS.mks d.1 + (0 + 0))
def top_Pots (k : Int) (d : tPots.D) : tPots.D := (tIntSS.mkd (k) d.1, d.2.1, d.2.2)
set_option maxRecDepth 100000 in
set_option maxHeartbeats 2000000 in
theorem yb_mk_Pots (vx_Pots : Value) (x_Groups : Int) (x_Most : Int) (d : tPots.D) (k : Int) (lo : Nat) (bs : List Nat) (w : World) (h : tPots.Ow w lo [vx_Pots, .int .i64 x_Groups, .int .i64 x_Most] d bs) (hnd : bs.Nodup) (h0 : 0 < k) (hk : k + cnt_Pots d ≤ 1000000000000) : Calls Try.prog 35 #[.agg #[vx_Pots, .int .i64 x_Groups, .int .i64 x_Most], .int .i64 k] w (MarkC tPots [vx_Pots, .int .i64 x_Groups, .int .i64 x_Most] (top_Pots k d) (cnt_Pots d) k bs w) := by
  obtain ⟨b0, bt0, hbs0, p0, ht0⟩ := ow_split h
  have P0 : tIntSS.Ow w lo [vx_Pots] d.1 b0 := p0
  clear p0
  obtain ⟨b1, b2, hbs1, p1, ht1⟩ := ow_split ht0
  have P1 : tInt.Ow w lo [.int .i64 x_Groups] d.2.1 b1 := p1
  clear p1
  have P2 : tInt.Ow w lo [.int .i64 x_Most] d.2.2 b2 := ht1
  subst hbs1
  subst hbs0
  have HP0 := Lib.hid P0
  have HP1 := Lib.hid P1
  have HP2 := Lib.hid P2
  have HLT := Lib.hid (tPots.ow_lt h)
  have HMEM0 : Hid (∀ q, q ∈ b0 → q ∈ b0 ++ (b1 ++ (b2))) := fun q hq => by simp only [List.mem_append]; simp [hq]
  have ND0 : Hid (b0.Nodup) := by
    have h7 := hnd
    simp only [List.nodup_append] at h7
    exact h7.1
  have hc : cnt_Pots d = (tIntSS.mks d.1 + (0 + 0)) := rfl
  unfold MarkC
  rw [hc]
  rw [hc] at hk
  obtain ⟨N0, hN0⟩ : ∃ z, tIntSS.mks d.1 = z := ⟨_, rfl⟩
  have HN0 := Lib.hid hN0
  rw [hN0] at hk
  rw [hN0]
  have HE0 : Hid (KeepB (b0 ++ (b1 ++ (b2))) w (w.alloc (.cells #[vx_Pots, .int .i64 x_Groups, .int .i64 x_Most] 26))) := KeepB.of_below ((Below.refl _ _).alloc (Nat.le_refl _) _)
  have BX0 : Hid (BoxN (w.alloc (.cells #[vx_Pots, .int .i64 x_Groups, .int .i64 x_Most] 26)) w.heap.size [vx_Pots, .int .i64 x_Groups, .int .i64 x_Most]) := BoxN.made (Below.refl _ _) rfl
  have Q0_0 := Lib.hid (KeepB.ow (bs := []) HP0.out (KeepB.of_below ((Below.refl _ _).alloc (Nat.le_refl _) (.cells #[vx_Pots, .int .i64 x_Groups, .int .i64 x_Most] 26))) (fun q _ hq => by cases hq))
  clear hc h hnd P0 P1 P2 hN0
  have c0 := BX0.out.2 0 _ rfl
  have c1 := BX0.out.2 1 _ rfl
  have c2 := BX0.out.2 2 _ rfl
  have bl := BX0.out.1
  go_enter Try.func35, Try.ntmps35
  go_wp2_with fail
  refine (yb_mk_IntSS vx_Pots d.1 (k) lo b0 _ Q0_0.out ND0.out (by omega) (by have := HN0.out; omega)).mono ?_
  rintro e w1 ⟨rfl, hr1, hk1⟩
  have HR0_1 := Lib.hid hr1
  have HE1 := Lib.hid (KeepB.mono (KeepB.trans HE0.out hk1) (b2 := b0 ++ (b1 ++ (b2))) (fun q hq => (List.mem_append.1 hq).elim id (HMEM0.out q)))
  have BX1 := Lib.hid (KeepB.box BX0.out hk1 (fun hq => by have := (HLT.out _ (HMEM0.out _ hq)).2; omega))
  rw [HN0.out]
  clear c0 c1 c2 bl BX0 hr1 hk1 HE0 Q0_0
  have c0 := BX1.out.2 0 _ rfl
  have c1 := BX1.out.2 1 _ rfl
  have c2 := BX1.out.2 2 _ rfl
  have bl := BX1.out.1
  have HRR : Hid (tPots.Rd w1 (fun q => q ∈ b0 ++ (b1 ++ (b2))) [vx_Pots, .int .i64 x_Groups, .int .i64 x_Most] (top_Pots k d)) := by
    unfold top_Pots
    exact ⟨[vx_Pots], _, rfl, (tIntSS.rd_mono HR0_1.out HMEM0.out), ⟨[.int .i64 x_Groups], _, rfl, (scal_int HP1.out), (scal_int HP2.out)⟩⟩
  have HEE := Lib.hid HE1.out
  go_wp2
  go_ret
  exact ⟨ret_int (by omega), HRR.out, HEE.out⟩
theorem form_Pots {w : World} {B : Nat → Prop} {cs : List Value} {d : tPots.D} (h : tPots.Rd w B cs d) : ∃ (vx_Pots : Value) (x_Groups : Int) (x_Most : Int), cs = [vx_Pots, .int .i64 x_Groups, .int .i64 x_Most] := by
  obtain ⟨c0, r0, e0, h0, t0⟩ := h
  obtain ⟨vx_Pots, _, g0, _⟩ := h0
  obtain ⟨c1, r1, e1, h1, t1⟩ := t0
  have g1 : c1 = [.int .i64 d.2.1] := h1
  have h2 := t1
  have g2 : r1 = [.int .i64 d.2.2] := h2
  exact ⟨vx_Pots, d.2.1, d.2.2, by rw [e0, e1, g0, g1, g2]; rfl⟩
theorem cntle_Pots (d : tPots.D) : cnt_Pots d ≤ tPots.mks d := by
  have e1 : cnt_Pots d = (tIntSS.mks d.1 + (0 + 0)) := rfl
  have e2 : tPots.mks d = (tIntSS.mks d.1 + (tInt.mks d.2.1 + tInt.mks d.2.2)) := rfl
  rw [e1, e2]
  omega
end Go.Proofs.Ytmhkkdnopcdibaa
