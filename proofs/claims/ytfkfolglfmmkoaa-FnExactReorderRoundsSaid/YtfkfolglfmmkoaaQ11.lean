/-
  Packed: TySlTo, TyPairSSt, TySlAp, Rounds5, Trip4, CloneP, RndExch, TySlUp, MirFacts, TripImplE.
-/
import Derived.WalkSpells
import Derived.BigRegion
import Derived.Deep.RegionHeld3
import Derived.Test.YtfkfolglfmmkoaaQ1
import Derived.Test.YtfkfolglfmmkoaaQ2
import Derived.Test.YtfkfolglfmmkoaaQ4
import Derived.Test.YtfkfolglfmmkoaaQ5
import Derived.Test.YtfkfolglfmmkoaaQ6
import Derived.Test.YtfkfolglfmmkoaaQ7
import Derived.Test.YtfkfolglfmmkoaaQ9
import Derived.Test.YtfkfolglfmmkoaaQ10
set_option linter.unusedVariables false
namespace Go.Proofs.Ytfkfolglfmmkoaa
open Go.RowKit

def RowsMk (e : Ty) (w : World) (O : Nat) (d : List e.D) (j : Nat) (ys : List Value) : Prop :=
  ∃ f : Nat → List Nat, (∀ i x, i < j → d[i]? = some x → e.Ow w (O + 1) [ys.getD i undef] x (f i)) ∧ (∀ i, i < j → (f i).Nodup) ∧ (∀ i k, i < j → k < j → i ≠ k → ∀ q, q ∈ f i → q ∉ f k) ∧ ∀ i, i < j → ∀ q, q ∈ f i → O < q ∧ q < w.heap.size
theorem RowsMk.nil {e : Ty} {w : World} {O : Nat} {d : List e.D} {ys : List Value} : RowsMk e w O d 0 ys :=
  ⟨fun _ => [], fun i _ h => absurd h (Nat.not_lt_zero _), fun i h => absurd h (Nat.not_lt_zero _), fun i _ h => absurd h (Nat.not_lt_zero _), fun i h => absurd h (Nat.not_lt_zero _)⟩
theorem RowsMk.next {e : Ty} {w u w' : World} {O : Nat} {d : List e.D} {j : Nat} {ys : List Value} {v : Value} {x : e.D} (h : RowsMk e w O d j ys) (hO : O < w.heap.size) (hb : Below w.heap.size w u) (ho : OwN e u w.heap.size u.heap.size [v] x)
    (hx : d[j]? = some x) (hj : j < ys.length) (hs : u.heap.size ≤ w'.heap.size) (hk : ∀ q, q ≠ O → q < u.heap.size → w'.heap[q]? = u.heap[q]?) : RowsMk e w' O d (j + 1) (ys.set j v) := by
  obtain ⟨f, h1, h2, h3, h4⟩ := h
  obtain ⟨bs, b1, b2, b3, _⟩ := ho
  have b4 := e.ow_lt b1
  have hsz := hb.size
  obtain ⟨F, hF1, hF2⟩ : ∃ F : Nat → List Nat, F j = bs ∧ ∀ i, i ≠ j → F i = f i := ⟨fun i => if i = j then bs else f i, if_pos rfl, fun i h => if_neg h⟩
  refine ⟨F, fun i y hi hy => ?_, fun i hi => ?_, fun i k hi hkk hik q hq => ?_, fun i hi q hq => ?_⟩
  · by_cases e1 : i = j
    · subst e1
      rw [hx] at hy
      obtain rfl := Option.some.inj hy
      rw [hF1]
      have e2 : (ys.set i v).getD i undef = v := by simp [List.getD_eq_getElem?_getD, hj]
      rw [e2]
      exact e.ow_mono (e.ow_frame b1 (fun q hq => hk q (by have := (b4 q hq).1; omega) (b4 q hq).2) hs) (by omega)
    · rw [hF2 i e1]
      have e2 : (ys.set j v).getD i undef = ys.getD i undef := by simp [List.getD_eq_getElem?_getD, Ne.symm e1]
      rw [e2]
      refine e.ow_frame (h1 i y (by omega) hy) (fun q hq => ?_) (Nat.le_trans hsz hs)
      have h5 := h4 i (by omega) q hq
      exact (hk q (by omega) (by omega)).trans (hb.block q h5.2)
  · by_cases e1 : i = j
    · rw [e1, hF1]; exact b2
    · rw [hF2 i e1]; exact h2 i (by omega)
  · by_cases e1 : i = j
    · rw [e1, hF1] at hq
      rw [hF2 k (by omega)]
      intro hq2
      have := h4 k (by omega) q hq2
      have := (b4 q hq).1
      omega
    · rw [hF2 i e1] at hq
      have h5 := h4 i (by omega) q hq
      by_cases e2 : k = j
      · rw [e2, hF1]; intro hq2; have := (b4 q hq2).1; omega
      · rw [hF2 k e2]; exact h3 i k (by omega) (by omega) hik q hq
  · by_cases e1 : i = j
    · rw [e1, hF1] at hq
      have := b4 q hq
      exact ⟨by omega, by omega⟩
    · rw [hF2 i e1] at hq
      have := h4 i (by omega) q hq
      exact ⟨this.1, by omega⟩
theorem flat_nodup_of {f : Nat → List Nat} : ∀ n, (∀ i, i < n → (f i).Nodup) → (∀ i k, i < n → k < n → i ≠ k → ∀ q, q ∈ f i → q ∉ f k) → ((List.range n).flatMap f).Nodup
  | 0, _, _ => List.nodup_nil
  | n + 1, h1, h2 => by
    rw [range_flat_succ]
    refine List.nodup_append.2 ⟨flat_nodup_of n (fun i hi => h1 i (by omega)) (fun i k hi hk => h2 i k (by omega) (by omega)), h1 n (Nat.lt_succ_self _), fun a ha b hb e => ?_⟩
    subst e
    obtain ⟨i, hi, ha⟩ := List.mem_flatMap.1 ha
    have := List.mem_range.1 hi
    exact h2 i n (by omega) (Nat.lt_succ_self _) (by omega) a ha hb
theorem RowsMk.own {t : TypeId} {e : Ty} {w : World} {O n c : Nat} {d : List e.D} {ys : List Value} (he : e.n = 1) (hn : d.length = n) (h : RowsMk e w O d n ys) (ho : w.ownsRow O t 1 (.slice (some ⟨O, 0, none⟩) n c) n ys) (hO : O < w.heap.size) :
    OwN (tSl t e) w O w.heap.size [.slice (some ⟨O, 0, none⟩) n c] d := by
  subst hn
  obtain ⟨f, h1, h2, h3, h4⟩ := h
  have hl := ho.1
  rw [Nat.mul_one] at hl
  refine ⟨O :: (List.range d.length).flatMap f, ⟨_, ys, f, rfl, by rw [he]; exact ho, fun i x hx => ?_, rfl⟩, List.nodup_cons.2 ⟨fun hm => ?_, flat_nodup_of _ h2 h3⟩, fun q hq => ?_, Nat.le_refl _⟩
  · have hi := (List.getElem?_eq_some_iff.1 hx).1
    rw [he, Nat.mul_one, List.drop_eq_getElem_cons (by omega : i < ys.length)]
    have h5 := h1 i x hi hx
    rw [List.getD_eq_getElem?_getD, List.getElem?_eq_getElem (by omega : i < ys.length)] at h5
    exact e.ow_mono h5 (Nat.le_succ _)
  · obtain ⟨i, hi, hq⟩ := List.mem_flatMap.1 hm
    have := h4 i (List.mem_range.1 hi) O hq
    omega
  · rcases List.mem_cons.1 hq with rfl | hq
    · exact hO
    · obtain ⟨i, hi, hq⟩ := List.mem_flatMap.1 hq
      exact (h4 i (List.mem_range.1 hi) q hq).2
end Go.Proofs.Ytfkfolglfmmkoaa
set_option linter.unusedVariables false
namespace Go.Proofs.Ytfkfolglfmmkoaa
open Go.RowKit

set_option maxRecDepth 100000 in
set_option maxHeartbeats 2000000 in
theorem y_sz_PairSS (v : Value) (d : List tPairS.D) (left : Int) (w : World) (hl0 : 0 ≤ left) (hl : left ≤ 1048576) (h : RdA tPairSS w [v] d) : Calls Try.prog 27 #[v, .int .i64 left] w (SzT tPairSS d left w) := by
  obtain ⟨a, cap, rfl, hn⟩ := rd_row_form h
  have HV := Lib.hid h
  clear h
  obtain ⟨n, hd⟩ : ∃ n, d.length = n := ⟨_, rfl⟩
  have HD := Lib.hid hd
  have HW : Hid ((tPairSS.wt d : Int) = n + ((d.map tPairS.wt).sum : Nat)) := by show _ = _; rw [← hd]; show ((d.length + (d.map tPairS.wt).sum : Nat) : Int) = _; omega
  rw [hd] at hn ⊢
  clear hd
  have s0 : IntKind.i64.wrap (left - (n : Int)) = left - n := IntWalk.i64_in _ (by omega)
  by_cases hb : left - (n : Int) < 0
  · have g0 : decide (left - (n : Int) < 0) = true := decide_eq_true hb
    go_enter Try.func27, Try.ntmps27
    go_wp2
    go_ret
    exact ⟨⟨-1, rfl, .inl (by omega)⟩, Below.refl _ _⟩
  have g0 : decide (left - (n : Int) < 0) = false := decide_eq_false hb
  go_enter Try.func27, Try.ntmps27
  go_wp2
  go_loopw [1, 5] (fun lv iv wr => ∃ (j : Nat) (l : Int), j ≤ n ∧ iv = .int .i64 j ∧ lv = .int .i64 l ∧ (0 ≤ l ∧ l ≤ 1048576) ∧ Hid ((n : Int) + (((d.take j).map tPairS.wt).sum : Nat) + l = left) ∧ Hid (Below w.heap.size w wr)) (fun _ iv _ => n - (RowKit.intOf iv).toNat)
  case atStart => exact ⟨0, left - n, Nat.zero_le _, rfl, rfl, ⟨by omega, by omega⟩, (by show _ = _; simp; omega), Below.refl _ _⟩
  case round =>
    obtain ⟨j, l, hj, rfl, rfl, hl2, HS, HB⟩ := hrel
    by_cases hlt : j < n
    · obtain ⟨y, hy⟩ : ∃ y, d[j]? = some y := ⟨_, List.getElem?_eq_getElem (by have := HD.out; omega)⟩
      obtain ⟨b, off, k, u, hv, hcap, hc, hu⟩ := rd_cell rfl (RdA.below HV.out HB.out) hy
      simp only [Value.slice.injEq] at hv
      obtain ⟨rfl, hv2, rfl⟩ := hv
      clear hv2
      rw [HD.out] at hcap
      have hj1 : (j : Int) < (n : Int) := by omega
      have c0 : wr.cell? ⟨b, off + j, none⟩ = some u := hc.2 0 _ rfl
      have HU := Lib.hid hu
      have hts := take_sum (f := tPairS.wt) hy
      have HTS := Lib.hid hts
      clear hc hu hts hy
      go_wp2_with fail
      refine (y_sz_PairS u y l _ hl2.1 hl2.2 HU.out).mono ?_
      rintro e w2 ⟨⟨r, rfl, hr⟩, b2⟩
      have HB2 := Lib.hid (HB.out.trans (b2.mono HB.out.size))
      have HSS : Hid (r < 0 ∨ (0 ≤ r ∧ r ≤ l ∧ (n : Int) + (((d.take (j + 1)).map tPairS.wt).sum : Nat) + r = left)) := by
        rcases hr with hr | ⟨h1, h2⟩
        · exact .inl hr
        · exact .inr ⟨h1, by omega, by have h3 := HS.out; rw [HTS.out]; omega⟩
      clear b2 hr HB HS HTS HU
      by_cases hr0 : r < 0
      · have g1 : decide (r < 0) = true := decide_eq_true hr0
        go_wp2
        go_ret
        exact ⟨⟨-1, rfl, .inl (by omega)⟩, HB2.out⟩
      have g1 : decide (r < 0) = false := decide_eq_false hr0
      have HS3 := HSS.out.resolve_left hr0
      have HS4 : Hid ((n : Int) + (((d.take (j + 1)).map tPairS.wt).sum : Nat) + r = left) := HS3.2.2
      have hr1 : 0 ≤ r ∧ r ≤ 1048576 := ⟨HS3.1, by have := HS3.2.1; omega⟩
      clear HSS HS3
      go_wp2
      go_roundw
      case rel => exact ⟨j + 1, r, by omega, by go_num, rfl, hr1, HS4, HB2⟩
      case measure => simp [RowKit.intOf]; omega
    · obtain rfl : j = n := by omega
      have HE : Hid ((tPairSS.wt d : Int) + l = left) := by
        show _ = _
        have h1 := HS.out
        rw [List.take_of_length_le (by have := HD.out; omega)] at h1
        rw [HW.out]; exact h1
      go_wp2
      go_ret
      exact ⟨⟨l, rfl, .inr ⟨hl2.1, HE.out⟩⟩, HB.out⟩
theorem y_form_PairS {w : World} {lo hi : Nat} {v : Value} {d : tPairS.D} (h : OwN tPairS w lo hi [v] d) : ∃ a c, v = .slice a (List.length d) c := by
  have h1 : RdA tPairS w [v] d := Ty.rd_mono _ (OwN.rd h) fun q hq => Nat.lt_of_lt_of_le hq.2 (OwN.hi_le h)
  obtain ⟨a, c, e, _⟩ := rd_row_form h1
  exact ⟨a, c, e⟩
theorem Try.infoPairSS : (Try.prog.info? 66).map (fun i => (i.zero, i.size, i.bytes)) = some (some (.slice none 0 0), 1, 24) := by kernel_rfl
set_option maxRecDepth 100000 in
set_option maxHeartbeats 2000000 in
theorem y_to_PairSS (v : Value) (d : List tPairS.D) (w : World) (h : RdA tPairSS w [v] d) (hw : tPairSS.wt d ≤ 1048576) : Calls Try.prog 29 #[v] w (MadeT tPairSS d w) := by
  obtain ⟨i0, hi, hz0, hz1, hz2⟩ := info_parts Try.infoPairSS
  obtain ⟨a, cap, rfl, hn⟩ := rd_row_form h
  have HV := Lib.hid h
  clear h
  obtain ⟨n, hd⟩ : ∃ n, d.length = n := ⟨_, rfl⟩
  have HD := Lib.hid hd
  have hwe : tPairSS.wt d = d.length + (d.map tPairS.wt).sum := rfl
  have hn6 : n ≤ 1048576 := by omega
  have HE : Hid (∀ j y, d[j]? = some y → tPairS.wt y ≤ 1048576) := fun j y hy => by
    have h1 := take_sum (f := tPairS.wt) hy
    have h2 := take_sum_le (f := tPairS.wt) (L := d) (j + 1)
    omega
  rw [hd] at hn ⊢
  clear hd hwe hw
  go_enter Try.func29, Try.ntmps29
  go_wp2_with (at_make; refine wpList_make_full _ rfl _ _ 28 rfl w.heap.size 66 i0 (.slice none 0 0) 1 Try.underlying28 hi hz0 hz1 .i64 .i64 n n n rfl rfl rfl rfl (by rw [hz2]; omega) (by unfold maxLen; omega) (Nat.le_refl _) ?_; intro w1 hown hg1)
  have hb1 : Below w.heap.size w w1 := (Below.refl _ _).grown hg1 (Nat.le_refl _) (fun k hk => by cases hk)
  have hlt1 : w.heap.size < w1.heap.size := (hown.lt w.heap.size rfl).2
  have HB1 := Lib.hid hb1
  have HO1 := Lib.hid hown
  clear hg1 hb1 hown
  go_loopw [4] (fun iv wr => ∃ (j : Nat) (ys : List Value), j ≤ n ∧ iv = .int .i64 j ∧ w.heap.size < wr.heap.size ∧ Hid (wr.ownsRow w.heap.size 66 1 (.slice (some ⟨w.heap.size, 0, none⟩) n n) n ys) ∧ Hid (RowsMk tPairS wr w.heap.size d j ys) ∧ Hid (Below w.heap.size w wr)) (fun iv _ => n - (RowKit.intOf iv).toNat)
  case atStart => exact ⟨0, _, Nat.zero_le _, rfl, hlt1, HO1, RowsMk.nil, HB1⟩
  case round =>
    clear HO1 HB1 hlt1
    obtain ⟨j, ys, hj, rfl, hO, HO, HR, HB⟩ := hrel
    by_cases hlt : j < n
    · obtain ⟨y, hy⟩ : ∃ y, d[j]? = some y := ⟨_, List.getElem?_eq_getElem (by have := HD.out; omega)⟩
      obtain ⟨b, off, k, u, hv, hcap, hc, hu⟩ := rd_cell rfl (RdA.below HV.out HB.out) hy
      simp only [Value.slice.injEq] at hv
      obtain ⟨rfl, hv2, rfl⟩ := hv
      clear hv2
      rw [HD.out] at hcap
      have hj1 : (j : Int) < (n : Int) := by omega
      have c0 : wr.cell? ⟨b, off + j, none⟩ = some u := hc.2 0 _ rfl
      have HU := Lib.hid hu
      have HY := Lib.hid hy
      have HYW := Lib.hid (HE.out j y hy)
      have HYL : Hid (j < ys.length) := by have := HO.out.1; show _ < _; omega
      clear hc hu hy
      go_wp2_with (go_at_call 71; refine (y_to_PairS u y _ HU.out HYW.out).mono ?_; rintro e w2 ⟨v2, rfl, ho2, b2⟩; obtain ⟨xa, xc, hvf⟩ := y_form_PairS ho2; subst hvf; have hown2 := owns_below HO.out b2 (Nat.le_refl _); obtain ⟨u0, e0⟩ := owns_cellR hown2 j (by omega); have f0 := hown2.frozenAt j)
      go_roundw
      case rel =>
        have hs2 := b2.size
        refine ⟨j + 1, _, by omega, by go_num, (by have h9 : w2.heap.size ≤ (w2.setCell ⟨w.heap.size, j, none⟩ (.slice xa (List.length y) xc)).heap.size := by simp [World.setCell]
                                                   omega), (hown2.stored j _).1, ?_, (HB.out.trans (b2.mono HB.out.size)).setCell (Nat.le_refl _) _⟩
        exact HR.out.next hO b2 ho2 HY.out HYL.out (Nat.le_of_eq (by simp [World.setCell])) fun q hq _ => Below.heap_setCell _ _ _ _ hq
      case measure => simp [RowKit.intOf]; omega
    · obtain rfl : j = n := by omega
      go_wp2
      go_ret
      exact ⟨_, rfl, RowsMk.own rfl HD.out HR.out HO.out hO, HB.out⟩
end Go.Proofs.Ytfkfolglfmmkoaa
set_option linter.unusedVariables false
namespace Go.Proofs.Ytfkfolglfmmkoaa
open Go.RowKit

def RowsAp (t : TypeId) (e : Ty) (w : World) (B : Nat) (v : Value) (d : List e.D) (xs : List Value) : Prop :=
  w.ownsRow B t 1 v d.length xs ∧ ∃ f : Nat → List Nat, (∀ i x, d[i]? = some x → e.Ow w B [xs.getD i undef] x (f i)) ∧ (∀ i, i < d.length → (f i).Nodup) ∧ (∀ i k, i < d.length → k < d.length → i ≠ k → ∀ q, q ∈ f i → q ∉ f k) ∧ ∀ i, i < d.length → ∀ q, q ∈ f i → v.ownBlock ≠ some q
theorem RowsAp.nil {t : TypeId} {e : Ty} {w : World} {B : Nat} {v : Value} (h : w.ownsRow B t 1 v 0 []) : RowsAp t e w B v [] [] :=
  ⟨h, fun _ => [], fun i x hx => (by cases hx), fun i hi => absurd hi (Nat.not_lt_zero _), fun i _ hi => absurd hi (Nat.not_lt_zero _), fun i hi => absurd hi (Nat.not_lt_zero _)⟩
theorem RowsAp.below {t : TypeId} {e : Ty} {w w' : World} {B : Nat} {v : Value} {d : List e.D} {xs : List Value} (h : RowsAp t e w B v d xs) (hb : Below w.heap.size w w') : RowsAp t e w' B v d xs := by
  obtain ⟨h0, f, h1, h2, h3, h4⟩ := h
  exact ⟨owns_below h0 hb (Nat.le_refl _), f, fun i x hx => e.ow_frame (h1 i x hx) (fun q hq => hb.block q (e.ow_lt (h1 i x hx) q hq).2) hb.size, h2, h3, h4⟩
theorem RowsAp.own {t : TypeId} {e : Ty} {w : World} {B : Nat} {v : Value} {d : List e.D} {xs : List Value} (he : e.n = 1) (h : RowsAp t e w B v d xs) : OwN (tSl t e) w B w.heap.size [v] d := by
  obtain ⟨h0, f, h1, h2, h3, h4⟩ := h
  have hl := h0.1
  rw [Nat.mul_one] at hl
  refine ⟨v.ownBlock.toList ++ (List.range d.length).flatMap f, ⟨v, xs, f, rfl, by rw [he]; exact h0, fun i x hx => ?_, rfl⟩, List.nodup_append.2 ⟨by cases v.ownBlock <;> simp, flat_nodup_of _ h2 h3, fun a ha b hb e => ?_⟩, fun q hq => ?_, Nat.le_refl _⟩
  · have hi := (List.getElem?_eq_some_iff.1 hx).1
    rw [he, Nat.mul_one, List.drop_eq_getElem_cons (by omega : i < xs.length)]
    have h5 := h1 i x hx
    rw [List.getD_eq_getElem?_getD, List.getElem?_eq_getElem (by omega : i < xs.length)] at h5
    exact h5
  · subst e
    obtain ⟨i, hi, hq⟩ := List.mem_flatMap.1 hb
    refine h4 i (List.mem_range.1 hi) a hq ?_
    cases hv : v.ownBlock with
    | none => rw [hv] at ha; cases ha
    | some z => rw [hv] at ha; simp at ha; rw [ha]
  · rcases List.mem_append.1 hq with hq | hq
    · cases hv : v.ownBlock with
      | none => rw [hv] at hq; cases hq
      | some z => rw [hv] at hq; simp at hq; subst hq; exact (h0.lt _ hv).2
    · obtain ⟨i, hi, hq⟩ := List.mem_flatMap.1 hq
      exact (e.ow_lt (h1 i _ (List.getElem?_eq_getElem (List.mem_range.1 hi))) q hq).2
theorem RowsAp.push {t : TypeId} {e : Ty} {w1 w2 w3 : World} {B : Nat} {v vv rv : Value} {d : List e.D} {xs : List Value} {x : e.D} (h : RowsAp t e w1 B v d xs) (hb : Below w1.heap.size w1 w2) (ho : OwN e w2 w1.heap.size w2.heap.size [rv] x) (hB : B ≤ w1.heap.size)
    (hg : w2.grownBy w3 v.ownBlock) (hown : w3.ownsRow B t 1 vv (d.length + 1) (xs ++ [rv])) (hat : ∀ q, vv.ownBlock = some q → v.ownBlock = some q ∨ w2.heap.size ≤ q) : RowsAp t e w3 B vv (d ++ [x]) (xs ++ [rv]) := by
  obtain ⟨h0, f, h1, h2, h3, h4⟩ := h
  obtain ⟨bs, b1, b2, b3, _⟩ := ho
  have b4 := e.ow_lt b1
  have hsz := hb.size
  obtain ⟨_, _, _, hs3, hk⟩ := hg
  have hl := h0.1
  rw [Nat.mul_one] at hl
  have hvlt : ∀ q, v.ownBlock = some q → q < w1.heap.size := fun q hq => (h0.lt q hq).2
  obtain ⟨F, hF1, hF2⟩ : ∃ F : Nat → List Nat, F d.length = bs ∧ ∀ i, i ≠ d.length → F i = f i := ⟨fun i => if i = d.length then bs else f i, if_pos rfl, fun i h => if_neg h⟩
  have hdl : (d ++ [x]).length = d.length + 1 := by simp
  have hlt : ∀ i, i < d.length → ∀ q, q ∈ f i → q < w1.heap.size := fun i hi q hq => (e.ow_lt (h1 i _ (List.getElem?_eq_getElem hi)) q hq).2
  refine ⟨by rw [hdl]; exact hown, F, fun i y hy => ?_, fun i hi => ?_, fun i k hi hkk hik q hq => ?_, fun i hi q hq => ?_⟩
  · by_cases e1 : i = d.length
    · subst e1
      have hyx : y = x := by simpa using hy.symm
      subst hyx
      rw [hF1]
      have e2 : (xs ++ [rv]).getD d.length undef = rv := by rw [← hl]; simp [List.getD_eq_getElem?_getD]
      rw [e2]
      exact e.ow_mono (e.ow_frame b1 (fun q hq => hk q (b4 q hq).2 (fun e => by have h7 := hvlt q e.symm; have := (b4 q hq).1; omega)) hs3) hB
    · have hi : i < d.length := by have := (List.getElem?_eq_some_iff.1 hy).1; omega
      rw [hF2 i e1]
      have e2 : (xs ++ [rv]).getD i undef = xs.getD i undef := by simp [List.getD_eq_getElem?_getD, List.getElem?_append_left (show i < xs.length by omega)]
      rw [e2]
      have hy2 : d[i]? = some y := by rw [List.getElem?_append_left hi] at hy; exact hy
      refine e.ow_frame (h1 i y hy2) (fun q hq => ?_) (Nat.le_trans hsz hs3)
      have h5 := hlt i hi q hq
      exact (hk q (by omega) (fun e => h4 i hi q hq e.symm)).trans (hb.block q h5)
  · by_cases e1 : i = d.length
    · rw [e1, hF1]; exact b2
    · rw [hF2 i e1]; exact h2 i (by omega)
  · by_cases e1 : i = d.length
    · rw [e1, hF1] at hq
      rw [hF2 k (by omega)]
      intro hq2
      have := hlt k (by omega) q hq2
      have := (b4 q hq).1
      omega
    · rw [hF2 i e1] at hq
      have h5 := hlt i (by omega) q hq
      by_cases e2 : k = d.length
      · rw [e2, hF1]; intro hq2; have := (b4 q hq2).1; omega
      · rw [hF2 k e2]; exact h3 i k (by omega) (by omega) hik q hq
  · intro e3
    by_cases e1 : i = d.length
    · rw [e1, hF1] at hq
      have h5 := b4 q hq
      rcases hat q e3 with h6 | h6
      · have := hvlt q h6; omega
      · omega
    · rw [hF2 i e1] at hq
      rcases hat q e3 with h6 | h6
      · exact h4 i (by omega) q hq h6
      · have := hlt i (by omega) q hq; omega
end Go.Proofs.Ytfkfolglfmmkoaa
set_option linter.unusedVariables false
namespace Go.Proofs.Ytfkfolglfmmkoaa
open Go.RowKit

def pcell (p : tPair.D) : List Value := [.int .i64 (hm p), .int .i64 (aw p)]
def pcells (T : PairL) : List Value := T.flatMap pcell
theorem pcells_push (T : PairL) (p : tPair.D) : pcells (T ++ [p]) = pcells T ++ pcell p := by unfold pcells; rw [List.flatMap_append]; simp
theorem pcells_rec : ∀ T : PairL, RecCells 2 (List.length (α := tPair.D) T) (pcells T) fun i => (atPair T i).cells
  | [], i, hi, _, _, _ => absurd hi (Nat.not_lt_zero _)
  | p :: T, 0, _, j, u, hu => by
    have hu2 : ([.int .i64 (hm p), .int .i64 (aw p)] : List Value)[j]? = some u := hu
    match j, hu2 with
    | 0, h => simpa [pcells, pcell] using h
    | 1, h => simpa [pcells, pcell] using h
    | n + 2, h => simp at h
  | p :: T, i + 1, hi, j, u, hu => by
    have h := pcells_rec T i (Nat.lt_of_succ_lt_succ hi) j u hu
    show (Value.int .i64 (hm p) :: Value.int .i64 (aw p) :: pcells T)[(i + 1) * 2 + j]? = _
    rw [show (i + 1) * 2 + j = (i * 2 + j) + 1 + 1 by omega]
    simpa using h
theorem own_pairs {w : World} {B : Nat} {v : Value} {T : PairL} (h : w.ownsRow B 63 2 v (List.length (α := tPair.D) T) (pcells T)) (hn : List.length (α := tPair.D) T ≤ 9223372036854775807) : OwN tPairS w B w.heap.size [v] T :=
  own_PairS h (PairRow.of_owns h hn (pcells_rec T)) (fun q hq => (h.lt q hq).2) (Nat.le_refl _)
theorem pairs_flat (r : PairL) : flatR (fun i => (atPair r i).cells) (List.length (α := tPair.D) r) = pcells r := by
  have key : ∀ (A B : List Value) (n : Nat) (g : Nat → List Value), A.length = n * 2 → B.length = n * 2 → RecCells 2 n A g → RecCells 2 n B g → (∀ i, i < n → (g i).length = 2) → A = B := by
    intro A B n g ha hb h1 h2 hg
    apply List.ext_getElem?
    intro q
    by_cases hq : q < n * 2
    · have hi : q / 2 < n := by omega
      have hl := hg _ hi
      have e : q / 2 * 2 + q % 2 = q := by omega
      have hu := List.getElem?_eq_getElem (l := g (q / 2)) (i := q % 2) (by omega)
      have a1 := h1 _ hi _ _ hu
      have a2 := h2 _ hi _ _ hu
      rw [e] at a1 a2
      rw [a1, a2]
    · rw [List.getElem?_eq_none (by omega), List.getElem?_eq_none (by omega)]
  have hlp : ∀ T : PairL, (pcells T).length = List.length (α := tPair.D) T * 2 := by
    intro T
    induction T with
    | nil => rfl
    | cons p T ih =>
      have k : ∀ A B : Nat, A = B * 2 → A + 1 + 1 = (B + 1) * 2 := by omega
      exact k _ _ ih
  exact key _ _ _ _ (flatR_len 2 _ _ fun _ _ => rfl) (hlp r) (flatR_cells 2 _ _ fun _ _ => rfl) (pcells_rec r) fun _ _ => rfl
theorem at_slice {w : World} {gg n c : Nat} {v : Value} (h : v.ownBlock = some gg ∨ w.heap.size ≤ gg) : ∀ q, (Value.slice (some ⟨gg, 0, none⟩) n c).ownBlock = some q → v.ownBlock = some q ∨ w.heap.size ≤ q := fun q hq => by
  have hq' : gg = q := by simpa [Value.ownBlock] using hq
  subst hq'
  exact h
def mkP (h a : Int) : tPair.D := (h, a)
def turnR (r : PairL) : PairL := r.map fun p => mkP (aw p) (hm p)
def mirL (d : List PairL) : List PairL := d ++ d.map turnR
end Go.Proofs.Ytfkfolglfmmkoaa
set_option linter.unusedVariables false
namespace Go.Proofs.Ytfkfolglfmmkoaa
open Go.RowKit

theorem take_row {w : World} {a : Option Addr} {n c : Nat} {O : List Int} (h : IntRow w (.slice a n c) n (getI O)) (hn : O.length = n) {k : Nat} (hk : k < n) : IntRow w (.slice a k c) (O.take k).length (getI (O.take k)) := by
  obtain ⟨b, off, rfl, hcap, _⟩ := int_at h hk
  rcases h with ⟨_, _, he, h0⟩ | ⟨b', off', c', he, h0, hn6, hc, hcap'⟩
  · omega
  simp only [Value.slice.injEq, Option.some.injEq, Addr.mk.injEq, and_true, true_and] at he
  obtain ⟨⟨rfl, rfl⟩, rfl⟩ := he
  have hl : (O.take k).length = k := by rw [List.length_take]; omega
  rw [hl]
  exact (IntRow.take k (by omega) hn6 hcap hc).congr fun i hi => by unfold getI; rw [List.getD_eq_getElem?_getD, List.getD_eq_getElem?_getD, List.getElem?_take, if_pos hi]
set_option maxRecDepth 100000 in
set_option maxHeartbeats 4000000 in
theorem l11Order_spec (n : Nat) (v : Value) (O : List Int) (R : Bool) (w : World) (hn : n ≤ 1048576) (hR : R = true ↔ ordP n O) (h : IntRow w v O.length (getI O)) :
    Calls Try.prog 75 #[.int .i64 n, v] w fun e w' => e = .returned (.bool R) ∧ Below w.heap.size w w' := by
  obtain ⟨a, c, rfl, ho9, _⟩ := h.form
  obtain ⟨m, hm⟩ : ∃ m, O.length = m := ⟨_, rfl⟩
  have HM := Lib.hid hm
  have HN := Lib.hid (boolF hR)
  have HY := Lib.hid (boolT hR)
  rw [hm] at ho9 h ⊢
  have HR := Lib.hid h
  clear h hR hm
  go_enter Try.func75, Try.ntmps75
  go_wp2
  go_loopw [9] (fun iv wr => ∃ i : Nat, i ≤ m ∧ iv = .int .i64 i ∧ Hid (∀ j, j < i → (0 ≤ getI O j ∧ getI O j ≤ (n : Int) - 1) ∧ ¬ getI O j ∈ O.take j) ∧ Hid (Below w.heap.size w wr)) (fun iv _ => m - (RowKit.intOf iv).toNat)
  case atStart => exact ⟨0, Nat.zero_le _, rfl, fun j hj => absurd hj (Nat.not_lt_zero _), Below.refl _ _⟩
  case round =>
    obtain ⟨i, hi9, rfl, HV, HB⟩ := hrel
    by_cases hlt : i < m
    · have HRr := Lib.hid (HR.out.below HB.out (Nat.le_refl _))
      have HTR := Lib.hid (take_row HRr.out HM.out hlt)
      obtain ⟨b, off, rfl, hcap, q0⟩ := int_at HRr.out hlt
      have hj1 : (i : Int) < (m : Int) := by omega
      have HF : Hid (¬ ((0 ≤ getI O i ∧ getI O i ≤ (n : Int) - 1) ∧ ¬ getI O i ∈ O.take i) → R = false) := fun h => HN.out fun hp => h (hp.2 i (by rw [← hp.1, HM.out]; exact hlt))
      have HVN : Hid (((0 ≤ getI O i ∧ getI O i ≤ (n : Int) - 1) ∧ ¬ getI O i ∈ O.take i) → ∀ j, j < i + 1 → (0 ≤ getI O j ∧ getI O j ≤ (n : Int) - 1) ∧ ¬ getI O j ∈ O.take j) := fun h j hj => by
        by_cases e : j = i
        · subst e; exact h
        · exact HV.out j (by omega)
      obtain ⟨r1, hr1⟩ := boolEx (0 ≤ getI O i ∧ getI O i ≤ (n : Int) - 1)
      obtain ⟨r2, hr2⟩ := boolEx (getI O i ∈ O.take i)
      have CH := Lib.hid (l02Has_mem (.slice (some ⟨b, off, none⟩) i c) (O.take i) (getI O i) r2 wr hr2 HTR.out)
      have HR1 := Lib.hid hr1
      have HR2 := Lib.hid hr2
      clear HTR hr1 hr2 HV
      generalize getI O i = x at *
      go_wp2_with fail
      refine (l01In_bool _ _ _ r1 HR1.out _).mono ?_
      rintro e wx ⟨rfl, rfl⟩
      cases r1 with
      | false =>
        obtain rfl := HF.out (fun h => by have := HR1.out.2 h.1; cases this)
        clear HF HVN
        go_wp2
        go_ret
        exact ⟨rfl, HB.out⟩
      | true =>
      have hr1 := HR1.out.1 (by first | rfl | trivial)
      go_wp2_with fail
      refine CH.out.mono ?_
      rintro e wx ⟨rfl, rfl⟩
      cases r2 with
      | true =>
        obtain rfl := HF.out (fun h => h.2 (HR2.out.1 (by first | rfl | trivial)))
        clear HF HVN
        go_wp2
        go_ret
        exact ⟨rfl, HB.out⟩
      | false =>
        have HVx := Lib.hid (HVN.out ⟨hr1, fun h => by have := HR2.out.2 h; cases this⟩)
        clear HF HVN
        go_wp2
        go_roundw
        case rel => exact ⟨i + 1, by omega, by go_num, HVx, HB⟩
        case measure => simp [RowKit.intOf]; omega
    obtain rfl : i = m := by omega
    by_cases hmn : i = n
    · subst hmn
      obtain rfl := HY.out ⟨HM.out, HV.out⟩
      have g1 : ((i : Int) == (i : Int)) = true := by simp
      go_wp2
      go_ret
      exact ⟨rfl, HB.out⟩
    · obtain rfl := HN.out (fun h => hmn (by rw [← HM.out]; exact h.1))
      have g1 : ((i : Int) == (n : Int)) = false := by simp; omega
      go_wp2
      go_ret
      exact ⟨rfl, HB.out⟩
def ReoM (w : World) (R : Bool) (d : List PairL) (e : Ending) (w' : World) : Prop := ∃ v, e = .returned (.tuple #[v, .bool R]) ∧ OwN tPairSS w' w.heap.size w'.heap.size [v] d ∧ Below w.heap.size w w'
def reoV (R : Bool) (D : List PairL) (O : List Int) : List PairL := if R = true then reoL D O else []
theorem nil_rows (w : World) : OwN tPairSS w w.heap.size w.heap.size [.slice none 0 0] [] := RowsAp.own rfl (RowsAp.nil (World.ownsRow_nil _ _ _ _))
theorem owN_mono {e : Ty} {w : World} {lo lo' hi : Nat} {cs : List Value} {d : e.D} (h : OwN e w lo hi cs d) (hl : lo' ≤ lo) : OwN e w lo' hi cs d := by
  obtain ⟨bs, h1, h2, h3, h4⟩ := h
  exact ⟨bs, e.ow_mono h1 hl, h2, h3, h4⟩
set_option maxRecDepth 100000 in
set_option maxHeartbeats 4000000 in
theorem reorderRounds_spec (v : Value) (d : List PairL) (vo : Value) (O : List Int) (R : Bool) (w : World) (hR : R = true ↔ ordP (List.length (α := PairL) d) O) (h : RdA tPairSS w [v] d) (hw : tPairSS.wt d ≤ 1048576) (ho : IntRow w vo O.length (getI O)) :
    Calls Try.prog 33 #[v, vo] w (ReoM w R (reoV R d O)) := by
  obtain ⟨i0, hi, hz0, hz1, hz2⟩ := info_parts Try.infoPair
  obtain ⟨s0, si, sz0, sz1, sz2⟩ := info_parts Try.infoPairSS
  have hdl : List.length (α := PairL) d ≤ 1048576 := by have e : tPairSS.wt d = List.length (α := PairL) d + (d.map tPairS.wt).sum := rfl; omega
  obtain ⟨a, c, rfl, hn⟩ := schedule_form h
  obtain ⟨oa9, oc9, rfl, hon, _⟩ := ho.form
  obtain ⟨n, hd⟩ : ∃ n, List.length (α := PairL) d = n := ⟨_, rfl⟩
  rw [hd] at hR hdl
  have CO := Lib.hid (l11Order_spec n _ O R w hdl hR ho)
  have HOR := Lib.hid ho
  have HR := Lib.hid h
  have HD := Lib.hid hd
  have HRR : Hid (R = true → ordP n O) := hR.1
  have HWT : Hid (∀ k r, d[k]? = some r → List.length (α := tPair.D) r ≤ 1048576) := fun k r hr => by
    have h1 := take_sum (f := tPairS.wt) hr
    have h2 := take_sum_le (f := tPairS.wt) (L := d) (k + 1)
    have h3 : tPairSS.wt d = List.length (α := PairL) d + (d.map tPairS.wt).sum := rfl
    have h4 := wt_PairS r
    omega
  rw [hd] at hn ⊢
  clear h hd hw ho hR
  obtain ⟨m, hm⟩ : ∃ m, O.length = m := ⟨_, rfl⟩
  have HM := Lib.hid hm
  rw [hm] at CO HOR hon ⊢
  clear hm
  go_enter Try.func33, Try.ntmps33
  go_wp2_with fail
  refine CO.out.mono ?_
  rintro e w1 ⟨rfl, b⟩
  have HB1 := Lib.hid b
  clear b CO
  cases R with
  | false =>
    have HN0 : Hid (OwN tPairSS w1 w.heap.size w1.heap.size [.slice none 0 0] []) := owN_mono (nil_rows w1) HB1.out.size
    go_wp2
    go_ret2
    exact ⟨_, rfl, HN0.out, HB1.out⟩
  | true =>
  have HORD : Hid (ordP n O) := HRR.out (by first | rfl | trivial)
  have hmn : m = n := by rw [← HM.out]; exact HORD.out.1
  subst hmn
  have HRL : Hid (reoV true d O = O.map fun i => rdR d i.toNat) := rfl
  have ON : Hid (RowsAp 66 tPairS (w1.alloc (.cells #[] 66)) w1.heap.size (.slice (some ⟨w1.heap.size, 0, none⟩) 0 0) [] []) := RowsAp.nil (World.ownsRow_lit (e := 66) (size := 1) w1 #[] 0 (Nat.le_refl _) (by decide) rfl)
  have HB0 : Hid (Below w1.heap.size w1 (w1.alloc (.cells #[] 66))) := (Below.refl _ _).alloc (Nat.le_refl _) _
  clear HRR
  go_wp2
  go_loopw [6, 17] (fun ov iv wr => ∃ (k : Nat) (D : List PairL) (xs : List Value), k ≤ m ∧ iv = .int .i64 k ∧ List.length (α := PairL) D = k ∧ Hid (D = (O.take k).map fun i => rdR d i.toNat) ∧ Hid (RowsAp 66 tPairS wr w1.heap.size ov D xs) ∧ Hid (Below w1.heap.size w1 wr)) (fun _ iv _ => m - (RowKit.intOf iv).toNat)
  case atStart => exact ⟨0, [], [], Nat.zero_le _, rfl, rfl, rfl, ON, HB0⟩
  case round =>
    clear ON HB0
    obtain ⟨k, D, xs, hk9, rfl, hDk, HDD, HA, HB⟩ := hrel
    obtain ⟨oa, oc, hof⟩ := owns_form HA.out.1
    subst hof
    by_cases hlt : k < m
    · obtain ⟨hg, _⟩ := HORD.out.2 k hlt
      have HORr := Lib.hid (HOR.out.below (HB1.out.trans (HB.out.mono HB1.out.size)) (Nat.le_refl _))
      obtain ⟨gb, go, rfl, hgc, g0⟩ := int_at HORr.out hlt
      have hOk : O[k]? = some (getI O k) := by rw [List.getElem?_eq_getElem (by rw [HM.out]; exact hlt)]; simp [getI, show k < O.length by rw [HM.out]; exact hlt]
      obtain ⟨q, hq9⟩ : ∃ q : Nat, getI O k = q := ⟨(getI O k).toNat, by omega⟩
      rw [hq9] at hg g0 hOk
      have hqm : q < m := by omega
      obtain ⟨r, hr⟩ : ∃ r : PairL, d[q]? = some r := ⟨_, List.getElem?_eq_getElem (by rw [HD.out]; exact hqm)⟩
      obtain ⟨b, off, x, xc, rfl, hcap, q00, hrr, hm63⟩ := round_cells (HR.out.below HB1.out) hr
      have q0 := (HB.out.cell (p := ⟨b, off + q, none⟩) (World.block_lt_of_cell? w1 _ q00)).trans q00
      have hblt : b < wr.heap.size := World.block_lt_of_cell? wr _ q0
      have hglt : gb < wr.heap.size := World.block_lt_of_cell? wr _ g0
      rw [HD.out] at hcap
      have hj1 : (k : Int) < (m : Int) := by omega
      have hj2 : (q : Int) < (m : Int) := by omega
      have HRW := Lib.hid hrr
      obtain ⟨z, hm⟩ : ∃ z, List.length (α := tPair.D) r = z := ⟨_, rfl⟩
      have HZ := Lib.hid hm
      rw [hm] at q0 hm63
      clear hm hrr q00 hq9
      have hm6 : z ≤ 1048576 := by have h9 := HWT.out q r hr; rw [HZ.out] at h9; exact h9
      have HTK : Hid (D ++ [r] = (O.take (k + 1)).map fun i => rdR d i.toNat) := by
        show _ = _
        rw [HDD.out, List.take_add_one, hOk, List.map_append]
        have e : rdR d ((q : Int)).toNat = r := by unfold rdR; rw [Int.toNat_natCast, hr]; rfl
        show _ = _ ++ [rdR d ((q : Int)).toNat]
        rw [e]
      have HPR : Hid (PairRow wr (.slice x z xc) z (atPair r)) := by have h9 := rd_PairS.1 (HRW.out.below HB.out); rw [HZ.out] at h9; exact h9
      clear hr HDD hOk
      have hs0 := HB.out.size
      have hD6 : List.length (α := PairL) D ≤ 1048576 := by omega
      have hD7 : List.length (α := tPairS.D) D ≤ 1048576 := hD6
      go_wp2_with (first | (at_builtin; refine wpList_cloneR rfl (.tmp 22) (.tmp 26) 66 rfl 63 Try.underlying66 hi hz0 hz1 hz2 rfl (by decide) (by simp [go_sem]) rfl HPR.out (fun i hi => rfl) (fun i hi u hu => by simp [PairD.cells] at hu; rcases hu with rfl | rfl <;> rfl) (by omega) (by omega) ?_; intro vv w3 o3 b3; obtain ⟨ya, yc, hvf⟩ := owns_form o3; subst hvf; have OR3 := Lib.hid o3; have B3 := Lib.hid b3; have hs3 : w1.heap.size ≤ w3.heap.size := Nat.le_trans hs0 b3.size; have HOO := Lib.hid (owns_below HA.out.1 b3 (Nat.le_refl _)); clear o3 b3 HPR) | (at_builtin; refine wpList_pushL rfl (.tmp 21) (.tmp 28) 28 rfl w1.heap.size 66 Try.underlying28 si sz0 sz1 sz2 rfl (by decide) [.slice ya z yc] rfl (by intro u hu; simp at hu; subst hu; rfl) rfl (by show Value.slice (some ⟨_, 0, none⟩) 1 1 = _; simp) HOO.out (by unfold maxLen; exact Nat.le_trans (Nat.succ_le_succ hD7) (by decide)) (Nat.le_trans (Nat.mul_le_mul_right _ (Nat.succ_le_succ hD7)) (by decide)) hs3 ?_; intro gg5 cc5 w5 o5 g5 at5 lt5; have O5 := Lib.hid o5; have G5 := Lib.hid g5; have A5 := Lib.hid at5; clear o5 g5 at5 lt5))
      have HOW : Hid (OwN tPairS w3 wr.heap.size w3.heap.size [.slice ya z yc] r) := by
        have h9 := OR3.out
        rw [← HZ.out, pairs_flat] at h9
        have h8 := own_pairs h9 (by rw [HZ.out]; omega)
        rw [HZ.out] at h8
        exact h8
      have HAN : Hid (RowsAp 66 tPairS w5 w1.heap.size (.slice (some ⟨gg5, 0, none⟩) (List.length (α := PairL) D + 1) cc5) (D ++ [r]) (xs ++ [.slice ya z yc])) := RowsAp.push HA.out B3.out HOW.out hs0 G5.out O5.out (at_slice A5.out)
      have HBN : Hid (Below w1.heap.size w1 w5) := (HB.out.trans (B3.out.mono hs0)).grown G5.out hs3 (fun q hq => (HA.out.1.lt q hq).1)
      clear HA HOW OR3 B3 HOO O5 G5 A5
      go_roundw
      case rel => exact ⟨k + 1, D ++ [r], _, by omega, by go_num, by rw [List.length_append, List.length_singleton, hDk], HTK, HAN, HBN⟩
      case measure => simp [RowKit.intOf]; omega
    obtain rfl : k = m := by omega
    have HDA : Hid (D = reoV true d O) := by show _ = _; rw [HDD.out, List.take_of_length_le (by have := HM.out; omega), HRL.out]
    have HOE := Lib.hid (owN_mono (RowsAp.own rfl HA.out) HB1.out.size)
    have HBW : Hid (Below w.heap.size w wr) := HB1.out.trans (HB.out.mono HB1.out.size)
    clear HDD HA
    go_wp2
    go_ret2
    exact ⟨_, rfl, by rw [← HDA.out]; exact HOE.out, HBW.out⟩
end Go.Proofs.Ytfkfolglfmmkoaa
set_option linter.unusedVariables false
namespace Go.Proofs.Ytfkfolglfmmkoaa
open Go.RowKit

set_option maxRecDepth 100000 in
set_option maxHeartbeats 2000000 in
theorem clonePairs_impl (ad : Addr) (c : Nat) (T : PairL) (w : World) (h : RdA tPairS w [.slice (some ad) (List.length (α := tPair.D) T) c] T) (hn6 : List.length (α := tPair.D) T ≤ 1048576) :
    Calls Try.prog 46 #[.slice (some ad) (List.length (α := tPair.D) T) c] w (MadeT tPairS T w) := by
  obtain ⟨i0, hi, hz0, hz1, hz2⟩ := info_parts Try.infoPair
  have HPR : Hid (PairRow w (.slice (some ad) (List.length (α := tPair.D) T) c) (List.length (α := tPair.D) T) (atPair T)) := rd_PairS.1 h
  obtain ⟨m, hm⟩ : ∃ m, List.length (α := tPair.D) T = m := ⟨_, rfl⟩
  have HM := Lib.hid hm
  rw [hm] at HPR hn6 ⊢
  clear hm h
  have hm63 : m ≤ 9223372036854775807 := by omega
  have hq1 : (binOp .eql 66 (.slice (some ad) m c) (.slice none 0 0)).run Try.prog w = .ok (.bool false) w := Lib.run_eql_slice_nil w 66 63 (some ad) m c 0 0 Try.underlying66
  go_enter Try.func46, Try.ntmps46
  go_wp2_with (at_builtin; refine wpList_cloneR rfl (.tmp 5) (.tmp 6) 66 rfl 63 Try.underlying66 hi hz0 hz1 hz2 rfl (by decide) (by simp [go_sem]) rfl HPR.out (fun i hi => rfl) (fun i hi u hu => by simp [PairD.cells] at hu; rcases hu with rfl | rfl <;> rfl) (by omega) (by omega) ?_; intro vv w3 o3 b3; have OR3 := Lib.hid o3; have B3 := Lib.hid b3; clear o3 b3)
  go_ret
  have HOW : OwN tPairS w3 w.heap.size w3.heap.size [vv] T := by
    have h9 := OR3.out
    rw [← HM.out, pairs_flat] at h9
    exact own_pairs h9 (by rw [HM.out]; omega)
  exact ⟨vv, rfl, HOW, B3.out⟩
end Go.Proofs.Ytfkfolglfmmkoaa
set_option linter.unusedVariables false
namespace Go.Proofs.Ytfkfolglfmmkoaa
open Go.RowKit

theorem Try.infoPairZ : (Try.prog.info? 63).map (·.size) = some 2 := by kernel_rfl
theorem exchanged_at (h a : Int) (w : World) :
    Calls Try.prog 81 #[.agg #[.int .i64 h, .int .i64 a]] w fun e w' => e = .returned (.agg #[.int .i64 a, .int .i64 h]) ∧ w' = (w.alloc (.cells #[.int .i64 h, .int .i64 a] 63)).alloc (.cells #[.int .i64 a, .int .i64 h] 63) := by
  have HW : Hid (Whole ((w.alloc (.cells #[.int .i64 h, .int .i64 a] 63)).alloc (.cells #[.int .i64 a, .int .i64 h] 63)) (w.heap.size + 1) #[.int .i64 a, .int .i64 h] 63) := by
    have e : (w.alloc (.cells #[.int .i64 h, .int .i64 a] 63)).heap.size = w.heap.size + 1 := by simp
    rw [← e]
    exact Whole.made _ _ _
  go_enter Try.func81, Try.ntmps81
  go_wp2
  exact bodyPost_ret (results_cell1 (Try.results81) rfl (run_loadVar_row _ _ 63 63 _ (0, 0) _ HW.out Try.underlying63 rfl Try.infoPairZ)) rfl ⟨rfl, rfl⟩
theorem exchanged_impl (h a : Int) (w : World) :
    Calls Try.prog 81 #[.agg #[.int .i64 h, .int .i64 a]] w fun e w' => e = .returned (.agg #[.int .i64 a, .int .i64 h]) ∧ Below w.heap.size w w' :=
  (exchanged_at h a w).mono fun e w' ⟨h1, h2⟩ => ⟨h1, by rw [h2]; exact ((Below.refl _ _).alloc (Nat.le_refl _) _).alloc (by simp) _⟩
end Go.Proofs.Ytfkfolglfmmkoaa
set_option linter.unusedVariables false
namespace Go.Proofs.Ytfkfolglfmmkoaa
open Go.RowKit

theorem RowsAp.zero {t : TypeId} {e : Ty} {w : World} {B N : Nat} {v z : Value} {x0 : e.D} (h : w.ownsRow B t 1 v N (List.replicate N z)) (hz : e.Ow w B [z] x0 []) : RowsAp t e w B v (List.replicate N x0) (List.replicate N z) := by
  refine ⟨by rw [List.length_replicate]; exact h, fun _ => [], fun i x hx => ?_, fun i _ => List.nodup_nil, fun i k _ _ _ q hq => (by cases hq), fun i _ q hq => (by cases hq)⟩
  rw [List.getElem?_replicate] at hx
  split at hx
  · rename_i hi
    cases hx
    rw [List.getD_eq_getElem?_getD, List.getElem?_replicate, if_pos hi]
    exact hz
  · cases hx
theorem RowsAp.upd {t : TypeId} {e : Ty} {w w' : World} {B : Nat} {v : Value} {d d' : List e.D} {xs xs' : List Value} (h : RowsAp t e w B v d xs) (hd : d'.length = d.length)
    (hk : ∀ q, q < w.heap.size → v.ownBlock ≠ some q → w'.heap[q]? = w.heap[q]?) (hs : w.heap.size ≤ w'.heap.size) (ho : w'.ownsRow B t 1 v d.length xs')
    (J : Nat → Option (List Nat)) (h0 : ∀ i, J i = none → xs'.getD i undef = xs.getD i undef ∧ d'[i]? = d[i]?)
    (h1 : ∀ i bs, J i = some bs → bs.Nodup ∧ (∀ q ∈ bs, w.heap.size ≤ q) ∧ ∀ x, d'[i]? = some x → e.Ow w' B [xs'.getD i undef] x bs)
    (h2 : ∀ i k bs cs, J i = some bs → J k = some cs → i ≠ k → ∀ q ∈ bs, q ∉ cs) : RowsAp t e w' B v d' xs' := by
  obtain ⟨o0, f, f1, f2, f3, f4⟩ := h
  have hlt : ∀ i, i < d.length → ∀ q, q ∈ f i → q < w.heap.size := fun i hi q hq => (e.ow_lt (f1 i _ (List.getElem?_eq_getElem hi)) q hq).2
  have hv : ∀ q, v.ownBlock = some q → q < w.heap.size := fun q hq => (o0.lt q hq).2
  obtain ⟨F, hF⟩ : ∃ F : Nat → List Nat, ∀ i, F i = (J i).getD (f i) := ⟨_, fun _ => rfl⟩
  have hN : ∀ i, J i = none → F i = f i := fun i hi => by rw [hF, hi]; rfl
  have hS : ∀ i bs, J i = some bs → F i = bs := fun i bs hi => by rw [hF, hi]; rfl
  clear hF
  refine ⟨by rw [hd]; exact ho, F, fun i x hx => ?_, fun i hi => ?_, fun i k hi hkk hik q hq => ?_, fun i hi q hq => ?_⟩
  · cases hj : J i with
    | none =>
      obtain ⟨e1, e2⟩ := h0 i hj
      rw [e1, hN i hj]
      rw [e2] at hx
      exact e.ow_frame (f1 i x hx) (fun q hq => hk q (hlt i (List.getElem?_eq_some_iff.1 hx).1 q hq) fun e3 => f4 i (List.getElem?_eq_some_iff.1 hx).1 q hq e3) hs
    | some bs => rw [hS i bs hj]; exact (h1 i bs hj).2.2 x hx
  · cases hj : J i with
    | none => rw [hN i hj]; exact f2 i (by omega)
    | some bs => rw [hS i bs hj]; exact (h1 i bs hj).1
  · rw [hd] at hi hkk
    cases hj : J i with
    | none =>
      rw [hN i hj] at hq
      cases hl : J k with
      | none => rw [hN k hl]; exact f3 i k hi hkk hik q hq
      | some cs =>
        rw [hS k cs hl]
        intro hq2
        have := (h1 k cs hl).2.1 q hq2
        have := hlt i hi q hq
        omega
    | some bs =>
      rw [hS i bs hj] at hq
      cases hl : J k with
      | none =>
        rw [hN k hl]
        intro hq2
        have := (h1 i bs hj).2.1 q hq
        have := hlt k hkk q hq2
        omega
      | some cs => rw [hS k cs hl]; exact h2 i k bs cs hj hl hik q hq
  · rw [hd] at hi
    intro e3
    cases hj : J i with
    | none => rw [hN i hj] at hq; exact f4 i hi q hq e3
    | some bs =>
      rw [hS i bs hj] at hq
      have := (h1 i bs hj).2.1 q hq
      have := hv q e3
      omega
end Go.Proofs.Ytfkfolglfmmkoaa
set_option linter.unusedVariables false
namespace Go.Proofs.Ytfkfolglfmmkoaa
open Go.RowKit

def mirK (d : List PairL) (n k : Nat) : List PairL := (List.range (2 * n)).map fun i => if i < n then (if i < k then (d[i]?).getD [] else []) else (if i - n < k then turnR ((d[i - n]?).getD []) else [])
theorem mirK_len (d : List PairL) (n k : Nat) : List.length (α := PairL) (mirK d n k) = 2 * n := by unfold mirK; rw [List.length_map, List.length_range]
theorem mirK_at (d : List PairL) (n k i : Nat) (hi : i < 2 * n) : (mirK d n k)[i]? = some (if i < n then (if i < k then (d[i]?).getD [] else []) else (if i - n < k then turnR ((d[i - n]?).getD []) else [])) := by
  unfold mirK; rw [List.getElem?_map, List.getElem?_range hi]; rfl
theorem mirK_zero (d : List PairL) (n : Nat) : mirK d n 0 = List.replicate (2 * n) [] := by
  apply List.ext_getElem?
  intro i
  by_cases hi : i < 2 * n
  · rw [mirK_at d n 0 i hi, List.getElem?_replicate, if_pos hi]
    by_cases h : i < n
    · rw [if_pos h, if_neg (Nat.not_lt_zero _)]
    · rw [if_neg h, if_neg (Nat.not_lt_zero _)]
  · rw [List.getElem?_eq_none (by rw [mirK_len]; omega), List.getElem?_eq_none (by rw [List.length_replicate]; omega)]
theorem mirK_all (d : List PairL) {n : Nat} (hn : List.length (α := PairL) d = n) : mirK d n n = mirL d := by
  apply List.ext_getElem?
  intro i
  by_cases hi : i < 2 * n
  · rw [mirK_at d n n i hi]
    unfold mirL
    by_cases h : i < n
    · rw [if_pos h, if_pos h, List.getElem?_append_left (by rw [hn]; exact h), List.getElem?_eq_getElem (by rw [hn]; exact h)]; rfl
    · rw [if_neg h, if_pos (by omega), List.getElem?_append_right (by rw [hn]; omega), hn, List.getElem?_map, List.getElem?_eq_getElem (by rw [hn]; omega)]; rfl
  · rw [List.getElem?_eq_none (by rw [mirK_len]; omega), List.getElem?_eq_none (by unfold mirL; rw [List.length_append, List.length_map, hn]; omega)]
theorem mirK_succ (d : List PairL) {n k : Nat} {r : PairL} (hr : d[k]? = some r) (hk : k < n) : (mirK d n (k + 1))[k]? = some r ∧ (mirK d n (k + 1))[n + k]? = some (turnR r) ∧ ∀ i, i ≠ k → i ≠ n + k → (mirK d n (k + 1))[i]? = (mirK d n k)[i]? := by
  refine ⟨?_, ?_, fun i h1 h2 => ?_⟩
  · rw [mirK_at d n _ k (by omega), if_pos hk, if_pos (by omega), hr]; rfl
  · rw [mirK_at d n _ (n + k) (by omega), if_neg (by omega), if_pos (by omega), Nat.add_sub_cancel_left, hr]; rfl
  · by_cases hi : i < 2 * n
    · rw [mirK_at d n _ i hi, mirK_at d n _ i hi]
      by_cases h : i < n
      · rw [if_pos h, if_pos h]
        by_cases h3 : i < k
        · rw [if_pos h3, if_pos (by omega)]
        · rw [if_neg h3, if_neg (by omega)]
      · rw [if_neg h, if_neg h]
        by_cases h3 : i - n < k
        · rw [if_pos h3, if_pos (by omega)]
        · rw [if_neg h3, if_neg (by omega)]
    · rw [List.getElem?_eq_none (by rw [mirK_len]; omega), List.getElem?_eq_none (by rw [mirK_len]; omega)]
theorem own_nilR (w : World) (B : Nat) : tPairS.Ow w B [.slice none 0 0] ([] : PairL) [] :=
  ⟨.slice none 0 0, [], fun _ => [], rfl, World.ownsRow_nil _ _ _ _, fun i x hx => (by cases hx), rfl⟩
theorem own_filled {w : World} {base m hi : Nat} {v : Value} {xs : List Value} {T : PairL} (h : w.ownsRow base 63 2 v m xs) (hm : List.length (α := tPair.D) T = m) (hn : m ≤ 9223372036854775807) (hc : RecCells 2 m xs (fun i => (atPair T i).cells)) (h1 : ∀ q, v.ownBlock = some q → q < hi) (hh : hi ≤ w.heap.size) : OwN tPairS w base hi [v] T := by
  subst hm
  exact own_PairS h (PairRow.of_owns h hn hc) h1 hh
theorem turn_len (r : PairL) : List.length (α := tPair.D) (turnR r) = List.length (α := tPair.D) r := List.length_map ..
theorem turn_at (r : PairL) {j : Nat} {p : tPair.D} (hp : r[j]? = some p) : (atPair (turnR r) j).cells = [.int .i64 (aw p), .int .i64 (hm p)] := by
  unfold atPair turnR
  rw [List.getElem?_map, hp]
  rfl
theorem pair_at (r : PairL) {j : Nat} {p : tPair.D} (hp : r[j]? = some p) : (atPair r j).cells = [.int .i64 (hm p), .int .i64 (aw p)] := by
  unfold atPair
  rw [hp]
  rfl
theorem mir_step {w0 w3 wi : World} {B : Nat} {B0 n k m : Nat} {d : List PairL} {r : PairL} {xs ys zs : List Value} {g2 : Nat} (hA : RowsAp 66 tPairS w0 B (.slice (some ⟨B0, 0, none⟩) (2 * n) (2 * n)) (mirK d n k) xs)
    (hr : d[k]? = some r) (hk : k < n) (hm : List.length (α := tPair.D) r = m) (hn : m ≤ 9223372036854775807) (hB : B ≤ w0.heap.size)
    (h3 : ∀ q, q < w0.heap.size → q ≠ B0 → w3.heap[q]? = w0.heap[q]?) (hb : Below w0.heap.size w3 wi) (hs : w0.heap.size ≤ w3.heap.size)
    (ho : w3.ownsRow B 66 1 (.slice (some ⟨B0, 0, none⟩) (2 * n) (2 * n)) (2 * n) ((xs.set k (.slice (some ⟨w0.heap.size, 0, none⟩) m m)).set (n + k) (.slice (some ⟨g2, 0, none⟩) m m))) (hB0 : B0 < w0.heap.size)
    (o1 : wi.ownsRow w0.heap.size 63 2 (.slice (some ⟨w0.heap.size, 0, none⟩) m m) m ys) (c1 : RecCells 2 m ys (fun i => (atPair r i).cells))
    (o2 : wi.ownsRow g2 63 2 (.slice (some ⟨g2, 0, none⟩) m m) m zs) (c2 : RecCells 2 m zs (fun i => (atPair (turnR r) i).cells)) (hg : w0.heap.size < g2) :
    RowsAp 66 tPairS wi B (.slice (some ⟨B0, 0, none⟩) (2 * n) (2 * n)) (mirK d n (k + 1)) ((xs.set k (.slice (some ⟨w0.heap.size, 0, none⟩) m m)).set (n + k) (.slice (some ⟨g2, 0, none⟩) m m)) := by
  obtain ⟨s1, s2, s3⟩ := mirK_succ d hr hk
  have hl : xs.length = 2 * n := by have := hA.1.1; rw [Nat.mul_one, show List.length (α := tPairS.D) (mirK d n k) = 2 * n from mirK_len d n k] at this; exact this
  have hg2 := (o2.lt g2 rfl).2
  obtain ⟨b1, e1, n1, l1, _⟩ := own_filled o1 hm hn c1 (hi := w0.heap.size + 1) (fun q hq => Nat.lt_succ_of_le (Nat.le_of_eq (by simpa [Value.ownBlock] using hq.symm))) (by omega)
  obtain ⟨b2, e2, n2, l2, _⟩ := own_filled o2 ((turn_len r).trans hm) hn c2 (hi := wi.heap.size) (fun q hq => (o2.lt q hq).2) (Nat.le_refl _)
  have t1 := tPairS.ow_lt e1
  have t2 := tPairS.ow_lt e2
  refine RowsAp.upd hA ((mirK_len d n (k + 1)).trans (mirK_len d n k).symm) (fun q hq hv => ?_) (Nat.le_trans hs hb.size) ?_ (fun i => if i = k then some b1 else if i = n + k then some b2 else none) (fun i hi => ?_) (fun i bs hi => ?_) (fun i j bs cs hi hj hij q hq hq2 => ?_)
  · have hne : q ≠ B0 := fun e => hv (by rw [e]; rfl)
    exact (hb.block q hq).trans (h3 q hq hne)
  · rw [show List.length (α := tPairS.D) (mirK d n k) = 2 * n from mirK_len d n k]
    exact owns_frame ho fun q hq => by
      have e : B0 = q := by simpa [Value.ownBlock] using hq
      subst e
      exact hb.block B0 hB0
  · have h1 : i ≠ k := fun e => by rw [if_pos e] at hi; cases hi
    have h2 : i ≠ n + k := fun e => by rw [if_neg h1, if_pos e] at hi; cases hi
    refine ⟨?_, s3 i h1 h2⟩
    rw [List.getD_eq_getElem?_getD, List.getElem?_set_ne (Ne.symm h2), List.getElem?_set_ne (Ne.symm h1), ← List.getD_eq_getElem?_getD]
  · by_cases h1 : i = k
    · rw [if_pos h1] at hi
      cases hi
      subst h1
      refine ⟨n1, fun q hq => (t1 q hq).1, fun x hx => ?_⟩
      obtain rfl : r = x := Option.some.inj (s1.symm.trans hx)
      rw [List.getD_eq_getElem?_getD, List.getElem?_set_ne (by omega), List.getElem?_set_self (by omega)]
      exact tPairS.ow_mono e1 hB
    · rw [if_neg h1] at hi
      by_cases h2 : i = n + k
      · rw [if_pos h2] at hi
        cases hi
        subst h2
        refine ⟨n2, fun q hq => by have := (t2 q hq).1; omega, fun x hx => ?_⟩
        obtain rfl : turnR r = x := Option.some.inj (s2.symm.trans hx)
        rw [List.getD_eq_getElem?_getD, List.getElem?_set_self (by rw [List.length_set]; omega)]
        exact tPairS.ow_mono e2 (by omega)
      · rw [if_neg h2] at hi; cases hi
  · have key : ∀ {i : Nat} {bs : List Nat}, (if i = k then some b1 else if i = n + k then some b2 else none) = some bs → (i = k ∧ bs = b1) ∨ (i = n + k ∧ bs = b2) := fun {i bs} h => by
      by_cases h1 : i = k
      · rw [if_pos h1] at h; cases h; exact .inl ⟨h1, rfl⟩
      · rw [if_neg h1] at h
        by_cases h2 : i = n + k
        · rw [if_pos h2] at h; cases h; exact .inr ⟨h2, rfl⟩
        · rw [if_neg h2] at h; cases h
    rcases key hi with ⟨hi1, rfl⟩ | ⟨hi1, rfl⟩ <;> rcases key hj with ⟨hj1, rfl⟩ | ⟨hj1, rfl⟩
    · omega
    · have := l1 q hq; have := (t2 q hq2).1; omega
    · have := l1 q hq2; have := (t2 q hq).1; omega
    · omega
end Go.Proofs.Ytfkfolglfmmkoaa
set_option linter.unusedVariables false
namespace Go.Proofs.Ytfkfolglfmmkoaa
open Go.RowKit

theorem Try.infoB1 : (Try.prog.info? 4).map (fun i => (i.zero, i.size, i.bytes)) = some (some (.bool false), 1, 1) := by kernel_rfl
set_option maxRecDepth 100000 in
set_option maxHeartbeats 4000000 in
theorem areAllIndices_impl (n : Nat) (v : Value) (O : List Int) (R : Bool) (w : World) (hn : n ≤ 1048576) (hR : R = true ↔ ordP n O) (h : IntRow w v O.length (getI O)) :
    Calls Try.prog 57 #[.int .i64 n, v] w fun e w' => e = .returned (.bool R) ∧ Below w.heap.size w w' := by
  obtain ⟨s0, si, sz0, sz1, sz2⟩ := info_parts Try.infoB1
  obtain ⟨a, c, rfl, ho9, _⟩ := h.form
  obtain ⟨m, hm⟩ : ∃ m, O.length = m := ⟨_, rfl⟩
  have HM := Lib.hid hm
  have HN := Lib.hid (boolF hR)
  have HY := Lib.hid (boolT hR)
  rw [hm] at ho9 h ⊢
  have HR := Lib.hid h
  clear h hR hm
  by_cases hmn : m = n
  case neg =>
    obtain rfl := HN.out (fun h => hmn (by rw [← HM.out]; exact h.1))
    have g1 : ((m : Int) != (n : Int)) = true := by simp; omega
    clear HN HY hmn
    go_enter Try.func57, Try.ntmps57
    go_wp2
    go_ret
    exact ⟨rfl, Below.refl _ _⟩
  subst hmn
  have g1 : ((m : Int) != (m : Int)) = false := by simp
  go_enter Try.func57, Try.ntmps57
  go_wp2_with (at_make; refine wpList_make_full _ rfl _ _ 129 rfl w.heap.size 4 s0 (.bool false) 1 Try.underlying129 si sz0 sz1 .i64 .i64 (m : Int) (m : Int) m rfl rfl rfl rfl (by rw [sz2]; omega) (by unfold maxLen; omega) (Nat.le_refl _) ?_; intro w1 hown hg1)
  have HB1 : Hid (Below w.heap.size w w1) := (Below.refl _ _).grown hg1 (Nat.le_refl _) (fun k hk => by cases hk)
  have HS1 : Hid (SeenN m w1 w.heap.size (fun _ => false)) := by
    have h9 := hown
    rw [show (Value.bool false).cells = #[.bool false] from rfl, Nat.mul_one, toList_madeCells_one] at h9
    refine ⟨(h9.lt w.heap.size rfl).2, fun j hj => ⟨?_, h9.frozenAt j⟩⟩
    exact owns_cell h9 j hj (Lib.hid (by rw [List.getElem?_replicate, if_pos hj]))
  clear hown hg1 g1
  go_loopw [16] (fun iv wr => ∃ (i : Nat) (S : Nat → Bool), i ≤ m ∧ iv = .int .i64 i ∧ Hid (∀ j, j < i → (0 ≤ getI O j ∧ getI O j ≤ (m : Int) - 1) ∧ ¬ getI O j ∈ O.take j) ∧ Hid (SeenN m wr w.heap.size S) ∧ Hid (∀ j : Nat, j < m → (S j = true ↔ (j : Int) ∈ O.take i)) ∧ Hid (Below w.heap.size w wr)) (fun iv _ => m - (RowKit.intOf iv).toNat)
  case atStart => exact ⟨0, _, Nat.zero_le _, rfl, fun j hj => absurd hj (Nat.not_lt_zero _), HS1, fun j _ => ⟨fun h => (by cases h), fun h => (by simp at h)⟩, HB1⟩
  case round =>
    clear HS1 HB1
    obtain ⟨i, S, hi9, rfl, HV, HS, HQ, HB⟩ := hrel
    by_cases hlt : i < m
    · have HRr := Lib.hid (HR.out.below HB.out (Nat.le_refl _))
      obtain ⟨b, off, rfl, hcap, q0⟩ := int_at HRr.out hlt
      have hj1 : (i : Int) < (m : Int) := by omega
      have HF : Hid (¬ ((0 ≤ getI O i ∧ getI O i ≤ (m : Int) - 1) ∧ ¬ getI O i ∈ O.take i) → R = false) := fun h => HN.out fun hp => h (hp.2 i hlt)
      have HVN : Hid (((0 ≤ getI O i ∧ getI O i ≤ (m : Int) - 1) ∧ ¬ getI O i ∈ O.take i) → ∀ j, j < i + 1 → (0 ≤ getI O j ∧ getI O j ≤ (m : Int) - 1) ∧ ¬ getI O j ∈ O.take j) := fun h j hj => by
        by_cases e : j = i
        · subst e; exact h
        · exact HV.out j (by omega)
      have HTK : Hid (∀ j : Nat, (j : Int) ∈ O.take (i + 1) ↔ (j : Int) ∈ O.take i ∨ (j : Int) = getI O i) := fun j => by
        have e : O[i]? = some (getI O i) := by unfold getI; rw [List.getD_eq_getElem?_getD, List.getElem?_eq_getElem (by rw [HM.out]; exact hlt)]; rfl
        rw [List.take_add_one, e]
        simp
      obtain ⟨x, hx⟩ : ∃ x, getI O i = x := ⟨_, rfl⟩
      rw [hx] at q0 HF HVN HTK
      clear hx HV
      by_cases h1 : 0 ≤ x
      case neg =>
        have g1 : decide (x < 0) = true := decide_eq_true (by omega)
        obtain rfl := HF.out (fun h => h1 h.1.1)
        clear HF HVN HTK h1
        go_wp2
        go_ret
        exact ⟨rfl, HB.out⟩
      obtain ⟨k, rfl⟩ : ∃ k : Nat, x = k := ⟨x.toNat, by omega⟩
      have g1 : decide ((k : Int) < 0) = false := decide_eq_false (by omega)
      by_cases h2 : k < m
      case neg =>
        have g2 : decide ((m : Int) ≤ (k : Int)) = true := decide_eq_true (by omega)
        have g2' : decide (m ≤ k) = true := decide_eq_true (by omega)
        obtain rfl := HF.out (fun h => h2 (by have := h.1.2; omega))
        clear HF HVN HTK h1
        go_wp2
        go_ret
        exact ⟨rfl, HB.out⟩
      have g2 : decide ((m : Int) ≤ (k : Int)) = false := decide_eq_false (by omega)
      have g2' : decide (m ≤ k) = false := decide_eq_false (by omega)
      have hk1 : (k : Int) < (m : Int) := by omega
      have hSx := HS.out.1
      obtain ⟨s0, s1⟩ := HS.out.2 k h2
      obtain ⟨r, hr⟩ : ∃ r, S k = r := ⟨_, rfl⟩
      have HRK : Hid (r = true ↔ (k : Int) ∈ O.take i) := by rw [← hr]; exact HQ.out k h2
      rw [hr] at s0
      clear hr
      cases r with
      | true =>
        obtain rfl := HF.out (fun h => h.2 (HRK.out.1 (by first | rfl | trivial)))
        clear HF HVN HTK HRK
        go_wp2
        go_ret
        exact ⟨rfl, HB.out⟩
      | false =>
        have HVx := Lib.hid (HVN.out ⟨⟨h1, by omega⟩, fun h => by have := HRK.out.2 h; cases this⟩)
        have HSN := Lib.hid (HS.out.set k h2)
        have HBN : Hid (Below w.heap.size w (wr.setCell ⟨w.heap.size, k, none⟩ (.bool true))) := HB.out.setCell (p := ⟨w.heap.size, k, none⟩) (Nat.le_refl _) _
        have HQN : Hid (∀ j : Nat, j < m → ((S j || decide (j = k)) = true ↔ (j : Int) ∈ O.take (i + 1))) := fun j hj => by
          rw [HTK.out, ← HQ.out j hj, Bool.or_eq_true, decide_eq_true_eq]
          exact ⟨fun h => h.elim .inl fun e => .inr (by omega), fun h => h.elim .inl fun e => .inr (by omega)⟩
        clear HF HVN HTK HRK
        go_wp2
        go_roundw
        case rel => exact ⟨i + 1, _, by omega, by go_num, HVx, HSN, HQN, HBN⟩
        case measure => simp [RowKit.intOf]; omega
    obtain rfl : i = m := by omega
    obtain rfl := HY.out ⟨HM.out, HV.out⟩
    go_wp2
    go_ret
    exact ⟨rfl, HB.out⟩
theorem round_vals {w : World} {a : Option Addr} {c : Nat} {D : List PairL} (h : RdA tPairSS w [.slice a (List.length (α := PairL) D) c] D) : ∃ Y : Nat → Value, ∀ j, j < List.length (α := PairL) D →
    (∃ b off, a = some ⟨b, off, none⟩ ∧ List.length (α := PairL) D ≤ c ∧ w.cell? ⟨b, off + j, none⟩ = some (Y j)) ∧ (∃ x k, Y j = .slice x (List.length (α := tPair.D) (rdR D j)) k) ∧ RdA tPairS w [Y j] (rdR D j) := by
  refine Classical.axiomOfChoice (r := fun j y => j < List.length (α := PairL) D → (∃ b off, a = some ⟨b, off, none⟩ ∧ List.length (α := PairL) D ≤ c ∧ w.cell? ⟨b, off + j, none⟩ = some y) ∧ (∃ x k, y = .slice x (List.length (α := tPair.D) (rdR D j)) k) ∧ RdA tPairS w [y] (rdR D j)) fun j => ?_
  by_cases hj : j < List.length (α := PairL) D
  · have hr : (D : List PairL)[j]? = some (rdR D j) := by unfold rdR; rw [List.getElem?_eq_getElem hj]; rfl
    obtain ⟨b, off, x, k, h1, h2, h3, h4, h5⟩ := round_cells h hr
    exact ⟨.slice x (List.length (α := tPair.D) (rdR D j)) k, fun _ => ⟨⟨b, off, h1, h2, h3⟩, ⟨x, k, rfl⟩, h4⟩⟩
  · exact ⟨undef, fun h => absurd h hj⟩
theorem rd_rows {w : World} {B m : Nat} {v : Value} {ys : List Value} {E : List PairL} (h : w.ownsRow B 66 1 v m ys) (hm : List.length (α := PairL) E = m) (hr : ∀ i r, (E : List PairL)[i]? = some r → RdA tPairS w [ys.getD i undef] r) : RdA tPairSS w [v] E := by
  subst hm
  have hl := h.1
  rw [Nat.mul_one] at hl
  refine ⟨v, _, rfl, recRow_own h (owns_max h), fun _ q hq => (h.lt q hq).2, fun i x hx => ?_⟩
  have hi : i < ys.length := hl ▸ (List.getElem?_eq_some_iff.1 hx).1
  show tPairS.Rd w (fun q => q < w.heap.size) (List.take 1 (List.drop (i * 1) ys)) x
  rw [Nat.mul_one, List.drop_eq_getElem_cons hi]
  have h5 := hr i x hx
  rw [List.getD_eq_getElem?_getD, List.getElem?_eq_getElem hi] at h5
  exact h5
def InOrd (w : World) (Y : Nat → Value) (O : List Int) (e : Ending) (w' : World) : Prop :=
  ∃ ys : List Value, e = .returned (.slice (some ⟨w.heap.size, 0, none⟩) O.length O.length) ∧ w'.ownsRow w.heap.size 66 1 (.slice (some ⟨w.heap.size, 0, none⟩) O.length O.length) O.length ys ∧ (∀ i, i < O.length → ys[i]? = some (Y (getI O i).toNat)) ∧ Below w.heap.size w w'
set_option maxRecDepth 100000 in
set_option maxHeartbeats 4000000 in
theorem inOrder_impl (a : Option Addr) (n c : Nat) (Y : Nat → Value) (vo : Value) (O : List Int) (w : World) (hn : O.length ≤ 1048576)
    (hY : ∀ j, j < n → (∃ b off, a = some ⟨b, off, none⟩ ∧ n ≤ c ∧ w.cell? ⟨b, off + j, none⟩ = some (Y j)) ∧ ∃ x l k, Y j = .slice x l k) (hO : ∀ i, i < O.length → 0 ≤ getI O i ∧ getI O i ≤ (n : Int) - 1) (ho : IntRow w vo O.length (getI O)) :
    Calls Try.prog 58 #[.slice a n c, vo] w (InOrd w Y O) := by
  obtain ⟨s0, si, sz0, sz1, sz2⟩ := info_parts Try.infoPairSS
  obtain ⟨oa, oc, rfl, ho9, _⟩ := ho.form
  unfold InOrd
  obtain ⟨m, hm⟩ : ∃ m, O.length = m := ⟨_, rfl⟩
  rw [hm] at ho ho9 hO hn ⊢
  have HM := Lib.hid hm
  have HO := Lib.hid ho
  have HYY := Lib.hid hY
  have HOB := Lib.hid hO
  clear ho hY hO hm
  go_enter Try.func58, Try.ntmps58
  go_wp2_with (at_make; refine wpList_make_full _ rfl _ _ 28 rfl w.heap.size 66 s0 (.slice none 0 0) 1 Try.underlying28 si sz0 sz1 .i64 .i64 (m : Int) (m : Int) m rfl rfl rfl rfl (by rw [sz2]; omega) (by unfold maxLen; omega) (Nat.le_refl _) ?_; intro w1 hown hg1)
  have HB1 : Hid (Below w.heap.size w w1) := (Below.refl _ _).grown hg1 (Nat.le_refl _) (fun k hk => by cases hk)
  have HW1 := Lib.hid hown
  clear hown hg1
  go_loopw [13] (fun iv wr => ∃ (i : Nat) (ys : List Value), i ≤ m ∧ iv = .int .i64 i ∧ Hid (wr.ownsRow w.heap.size 66 1 (.slice (some ⟨w.heap.size, 0, none⟩) m m) m ys) ∧ Hid (∀ j, j < i → ys[j]? = some (Y (getI O j).toNat)) ∧ Hid (Below w.heap.size w wr)) (fun iv _ => m - (RowKit.intOf iv).toNat)
  case atStart => exact ⟨0, _, Nat.zero_le _, rfl, HW1, fun j hj => absurd hj (Nat.not_lt_zero _), HB1⟩
  case round =>
    clear HW1 HB1
    obtain ⟨i, ys, hi9, rfl, HW, HV, HB⟩ := hrel
    by_cases hlt : i < m
    · have HRr := Lib.hid (HO.out.below HB.out (Nat.le_refl _))
      obtain ⟨b, off, rfl, hcap, q0⟩ := int_at HRr.out hlt
      have hj1 : (i : Int) < (m : Int) := by omega
      obtain ⟨h0, h1⟩ := HOB.out i hlt
      obtain ⟨k, hk⟩ : ∃ k : Nat, getI O i = k := ⟨(getI O i).toNat, by omega⟩
      rw [hk] at h0 h1 q0
      have hkn : k < n := by omega
      have hkn' : (k : Int) < (n : Int) := by omega
      obtain ⟨⟨yb, yo, rfl, hyc, y0'⟩, x, l, kc, hyf⟩ := HYY.out k hkn
      have y0 := (HB.out.cell (p := ⟨yb, yo + k, none⟩) (World.block_lt_of_cell? w _ y0')).trans y0'
      have HE : Hid (Y (getI O i).toNat = .slice x l kc) := by show _ = _; rw [hk, Int.toNat_natCast, hyf]
      rw [hyf] at y0
      obtain ⟨u0, c0⟩ := owns_cellR HW.out i (by omega)
      have f0 := HW.out.frozenAt i
      have HWN := Lib.hid (HW.out.stored i (.slice x l kc)).1
      have HBN : Hid (Below w.heap.size w (wr.setCell ⟨w.heap.size, i, none⟩ (.slice x l kc))) := HB.out.setCell (p := ⟨w.heap.size, i, none⟩) (Nat.le_refl _) _
      have HVN : Hid (∀ j, j < i + 1 → (ys.set i (.slice x l kc))[j]? = some (Y (getI O j).toNat)) := fun j hj => by
        by_cases e : j = i
        · subst e
          rw [List.getElem?_set_self (by have h9 := HW.out.1; omega), HE.out]
        · rw [List.getElem?_set_ne (Ne.symm e)]
          exact HV.out j (by omega)
      clear hyf hk y0' HV HE
      go_wp2
      go_roundw
      case rel => exact ⟨i + 1, _, by omega, by go_num, HWN, HVN, HBN⟩
      case measure => simp [RowKit.intOf]; omega
    obtain rfl : i = m := by omega
    go_wp2
    go_ret
    exact ⟨ys, rfl, HW.out, HV.out, HB.out⟩
end Go.Proofs.Ytfkfolglfmmkoaa
