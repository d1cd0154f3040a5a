/-
  Packed: TyOpen, First, TyIntS, Lists, TySlc.
-/
import Derived.Test.YtmhkkdnopcdibaaQ1
import Derived.Test.YtmhkkdnopcdibaaQ3
set_option linter.unusedVariables false
namespace Go.Proofs.Ytmhkkdnopcdibaa
open Go.RowKit Go.ChangeShapes Go.WideShapes Go.Joins Go.Deep

def Opens (P : Program) (t : TypeId) (T : Ty) : Prop :=
  P.cellsOf t = T.n ∧ 0 < T.n ∧ ∀ {H : Type} (enc : TypeId × Value → H) (w : World) (base : Nat) (held : Bool) (fuel : Nat) (cs : List Value) (x : DataW H × List MemPlace),
    DataW.trod enc P w base (fun _ => true) held fuel t cs = some x → ∃ d, RdA T w cs d ∧ T.fit d
theorem opens_int {P : Program} {t : TypeId} (h : P.underlying t = some (.int .i64)) (hc : P.cellsOf t = 1) : Opens P t tInt := ⟨hc, Nat.one_pos, fun enc w base held fuel cs x hx => by
  obtain ⟨z, e, _, hw⟩ := DataW.trod_int h hx
  exact ⟨z, e, intFit_of hw⟩⟩
theorem opens_bool {P : Program} {t : TypeId} (h : P.underlying t = some .bool) (hc : P.cellsOf t = 1) : Opens P t tBool := ⟨hc, Nat.one_pos, fun enc w base held fuel cs x hx => by
  obtain ⟨z, e, _⟩ := DataW.trod_bool h hx
  exact ⟨z, e, trivial⟩⟩
theorem opens_str {P : Program} {t : TypeId} (h : P.underlying t = some .string) (hc : P.cellsOf t = 1) : Opens P t tStr := ⟨hc, Nat.one_pos, fun enc w base held fuel cs x hx => by
  obtain ⟨z, e, _, hz⟩ := DataW.trod_string h hx
  exact ⟨z, e, hz⟩⟩
theorem choose_all {α : Type} {n : Nat} {p : Nat → α → Prop} (h : ∀ i, i < n → ∃ x, p i x) : ∃ L : List α, L.length = n ∧ ∀ i x, L[i]? = some x → p i x := by
  induction n with
  | zero => exact ⟨[], rfl, fun i x hx => by simp at hx⟩
  | succ n ih =>
    obtain ⟨L, h1, h2⟩ := ih fun i hi => h i (by omega)
    obtain ⟨y, hy⟩ := h n (by omega)
    refine ⟨L ++ [y], by simp [h1], fun i x hx => ?_⟩
    by_cases hi : i < L.length
    · rw [List.getElem?_append_left hi] at hx
      exact h2 i x hx
    · rw [List.getElem?_append_right (by omega)] at hx
      have : i - L.length = 0 := by have := (List.getElem?_eq_some_iff.1 hx).1; simp at this; omega
      rw [this] at hx
      simp at hx
      subst hx
      have : i = n := by omega
      rw [this]; exact hy
theorem opens_sl {P : Program} {t te : TypeId} {e : Ty} (h : P.underlying t = some (.slice te)) (hc : P.cellsOf t = 1) (he : Opens P te e) {tt : TypeId} : Opens P t (tSl tt e) := ⟨hc, Nat.one_pos, fun enc w base held fuel cs x hx => by
  obtain ⟨ce, hn0, he⟩ := he
  rcases Go.Deep.open_slice h hx with ⟨rfl, _⟩ | ⟨a, len, cap, m, q, Dx, Pl, rfl, hb, hl, hm, hmm, _, hel⟩
  · exact ⟨[], ⟨_, fun _ => [], rfl, .inl ⟨_, _, rfl, rfl⟩, fun h => absurd h (by simp), fun i x hx => by simp at hx⟩, fun x hx => by cases hx⟩
  have hlm : len ≤ m := by rw [hmm]; split <;> omega
  have each : ∀ i, i < len → ∃ x : List Value × e.D, (∀ j u, x.1[j]? = some u → w.cell? ((a.add (i * e.n)).add j) = some u) ∧ x.1.length = e.n ∧ RdA e w x.1 x.2 ∧ e.fit x.2 := by
    intro i hi
    obtain ⟨cs', h1, h2⟩ := hel i (by omega)
    rw [ce] at h1
    obtain ⟨_, hlen, hcell⟩ := World.cells?_some h1
    obtain ⟨d, hd, hf⟩ := he enc w base held q cs' _ h2
    exact ⟨(cs', d), fun j u hu => (hcell j (by have := (List.getElem?_eq_some_iff.1 hu).1; simpa [hlen] using this)).trans hu, hlen, hd, hf⟩
  obtain ⟨L, hL, hp⟩ := choose_all each
  have hlenD : (L.map Prod.snd).length = len := by rw [List.length_map, hL]
  refine ⟨L.map Prod.snd, ?_, fun y hy => ?_⟩
  · unfold maxLen at hm
    refine ⟨.slice (some a) len cap, fun i => ((L[i]?).map Prod.fst).getD [], rfl, ?_, ?_, fun i y hy => ?_⟩
    · rw [hlenD]
      by_cases h0 : len = 0
      · subst h0; exact .inl ⟨_, _, rfl, rfl⟩
      · obtain ⟨y0, hy0⟩ : ∃ y, L[0]? = some y := ⟨_, List.getElem?_eq_getElem (by omega)⟩
        obtain ⟨u0, hu0⟩ : ∃ u, y0.1[0]? = some u := ⟨_, List.getElem?_eq_getElem (by have := (hp 0 y0 hy0).2.1; omega)⟩
        have hc0 := (hp 0 y0 hy0).1 0 u0 hu0
        obtain ⟨b, off, spot⟩ := a
        have hspot : spot = none := by simpa [Addr.add] using World.cell?_spot hc0
        subst hspot
        refine .inr ⟨b, off, cap, rfl, by omega, by omega, fun i hi => ?_, hl⟩
        obtain ⟨y, hy⟩ : ∃ y, L[i]? = some y := ⟨_, List.getElem?_eq_getElem (by omega)⟩
        have hadd : ∀ o j : Nat, (⟨b, o, none⟩ : Addr).add j = ⟨b, o + j, none⟩ := fun o j => by unfold Addr.add; split <;> simp_all
        have hyc := (hp i y hy).1
        simp only [hy, Option.map_some, Option.getD_some]
        refine ⟨?_, fun j u hu => ?_⟩
        · obtain ⟨u, hu⟩ : ∃ u, y.1[0]? = some u := ⟨_, List.getElem?_eq_getElem (by have := (hp i y hy).2.1; omega)⟩
          have := hyc 0 u hu
          rw [hadd, hadd] at this
          exact World.block_lt_of_cell? w _ this
        · have := hyc j u hu
          rw [hadd, hadd] at this
          exact this
    · intro h0 z hz
      have hz2 : a.block = z := by simpa [Value.ownBlock] using hz
      subst hz2
      obtain ⟨y0, hy0⟩ : ∃ y, L[0]? = some y := ⟨_, List.getElem?_eq_getElem (by omega)⟩
      obtain ⟨u0, hu0⟩ : ∃ u, y0.1[0]? = some u := ⟨_, List.getElem?_eq_getElem (by have := (hp 0 y0 hy0).2.1; omega)⟩
      have := World.block_lt_of_cell? w _ ((hp 0 y0 hy0).1 0 u0 hu0)
      simpa [Addr.add] using this
    · rw [List.getElem?_map] at hy
      obtain ⟨z, hz, rfl⟩ := Option.map_eq_some_iff.1 hy
      simp only [hz, Option.map_some, Option.getD_some]
      exact (hp i z hz).2.2.1
  · obtain ⟨z, hz, rfl⟩ := List.mem_map.1 hy
    obtain ⟨i, hi⟩ := List.mem_iff_getElem?.1 hz
    exact (hp i z hi).2.2.2⟩
def Flds (P : Program) : List Field → Nat → Ty → Prop
  | [], _, _ => False
  | [f], o, T => f.offset = o ∧ Opens P f.type T
  | f :: g :: r, o, T => f.offset = o ∧ ∃ a b, T = tTwo a b ∧ Opens P f.type a ∧ Flds P (g :: r) (o + a.n) b
theorem flds_open {P : Program} {H : Type} (enc : TypeId × Value → H) (w : World) (base : Nat) (held : Bool) (n : Nat) (cs : List Value) (xs : List (DataW H × List MemPlace)) :
    ∀ (fs : List Field) (o k : Nat) (T : Ty), Flds P fs o T → (∀ i f, fs[i]? = some f → DataW.trod enc P w base (fun _ => true) held n f.type ((cs.drop f.offset).take (P.cellsOf f.type)) = xs[k + i]?) → k + fs.length = xs.length →
      0 < T.n ∧ ∃ d, RdA T w ((cs.drop o).take T.n) d ∧ T.fit d
  | [], _, _, _, h, _, _ => False.elim h
  | [f], o, k, T, h, hf, hl => by
    obtain ⟨h1, h2, h3, h4⟩ := h
    have h5 := hf 0 f rfl
    rw [h1, h2, Nat.add_zero] at h5
    obtain ⟨x, hx⟩ : ∃ x, xs[k]? = some x := ⟨_, List.getElem?_eq_getElem (by simp at hl; omega)⟩
    rw [hx] at h5
    exact ⟨h3, h4 enc w base held n _ _ h5⟩
  | f :: g :: r, o, k, T, h, hf, hl => by
    obtain ⟨h1, a, b, rfl, ⟨h2, h3, h4⟩, h5⟩ := h
    have h6 := hf 0 f rfl
    rw [h1, h2, Nat.add_zero] at h6
    obtain ⟨x, hx⟩ : ∃ x, xs[k]? = some x := ⟨_, List.getElem?_eq_getElem (by simp at hl; omega)⟩
    rw [hx] at h6
    obtain ⟨d1, r1, f1⟩ := h4 enc w base held n _ _ h6
    obtain ⟨hn, d2, r2, f2⟩ := flds_open enc w base held n cs xs (g :: r) (o + a.n) (k + 1) b h5 (fun i f' hf' => by have := hf (i + 1) f' (by simpa using hf'); rw [this]; congr 1; omega) (by simp at hl ⊢; omega)
    refine ⟨Nat.add_pos_left h3 _, (d1, d2), ?_, f1, f2⟩
    have e : (cs.drop o).take (a.n + b.n) = (cs.drop o).take a.n ++ (cs.drop (o + a.n)).take b.n := by rw [List.take_add, List.drop_drop]
    show RdA (tTwo a b) w ((cs.drop o).take (a.n + b.n)) (d1, d2)
    rw [e]
    exact r1.two r2
theorem opens_struct {P : Program} {t : TypeId} {fs : Array Field} {T : Ty} (h : P.underlying t = some (.struct fs)) (hc : P.cellsOf t = T.n) (hf : Flds P fs.toList 0 T) : Opens P t T := by
  have hpos : ∀ (fs : List Field) (o : Nat) (T : Ty), Flds P fs o T → 0 < T.n := by
    intro fs
    induction fs with
    | nil => intro o T h; exact False.elim h
    | cons f r ih =>
      intro o T h
      cases r with
      | nil => exact h.2.2.1
      | cons g r => obtain ⟨_, a, b, rfl, h2, _⟩ := h; exact Nat.add_pos_left h2.2.1 _
  refine ⟨hc, hpos _ _ _ hf, fun enc w base held fuel cs x hx => ?_⟩
  obtain ⟨xs, n, _, _, hcl, hxl, hg⟩ := DataW.trod_struct h hx
  obtain ⟨_, d, h1, h2⟩ := flds_open enc w base held n cs xs fs.toList 0 0 T hf (fun i f hi => by rw [hg i f (by simpa using hi)]; congr 1; omega) (by simp [hxl])
  rw [List.drop_zero, List.take_of_length_le (by rw [hcl, hc]; exact Nat.le_refl _)] at h1
  exact ⟨d, h1, h2⟩
theorem open_arg {P : Program} {t : TypeId} {T : Ty} {H : Type} {enc : TypeId × Value → H} {w : World} {base : Nat} {held : Bool} {r : Reach} {b0 : Nat} {fs : Array Field} {v : Value} {d : DataW H} {p : List MemPlace} (ho : Opens P t T) (hs : P.underlying t = some (.struct fs)) (hv : Value.okWide P w r b0 t v)
    (h : DataW.Trod enc P w base (fun _ => true) held t v d p) : ∃ cs : Array Value, v = .agg cs ∧ ∃ d, RdA T w cs.toList d ∧ T.fit d := by
  obtain ⟨cs, rfl, _⟩ := okWide_struct hs hv
  obtain ⟨fuel, hf⟩ := h
  obtain ⟨d, h1, h2⟩ := ho.2.2 enc w base held fuel _ _ hf
  exact ⟨cs, rfl, d, by simpa [Value.cells] using h1, h2⟩
theorem open_arg1 {P : Program} {t te : TypeId} {T : Ty} {H : Type} {enc : TypeId × Value → H} {w : World} {base : Nat} {held : Bool} {r : Reach} {b0 : Nat} {v : Value} {d : DataW H} {p : List MemPlace} (ho : Opens P t T) (hs : P.underlying t = some (.slice te)) (hv : Value.okWide P w r b0 t v)
    (h : DataW.Trod enc P w base (fun _ => true) held t v d p) : ∃ d, RdA T w [v] d ∧ T.fit d := by
  obtain ⟨a, len, cap, rfl⟩ := okWide_slice hs hv
  obtain ⟨fuel, hf⟩ := h
  exact ho.2.2 enc w base held fuel _ _ (by simpa [Value.cells] using hf)
end Go.Proofs.Ytmhkkdnopcdibaa
set_option linter.unusedVariables false
namespace Go.Proofs.Ytmhkkdnopcdibaa
open Go.RowKit

def firstI (p : Nat → Bool) : Nat → Nat → Int
  | 0, _ => -1
  | r + 1, k => if p k = true then (k : Int) else firstI p r (k + 1)
theorem firstI_pos (p : Nat → Bool) (r : Nat) : ∀ k, 0 ≤ firstI p r k ↔ ∃ j, k ≤ j ∧ j < k + r ∧ p j = true := by
  induction r with
  | zero => intro k; unfold firstI; constructor
            · intro h; omega
            · rintro ⟨j, h1, h2, _⟩; omega
  | succ r ih =>
    intro k
    unfold firstI
    by_cases h : p k = true
    · rw [if_pos h]
      exact ⟨fun _ => ⟨k, Nat.le_refl _, by omega, h⟩, fun _ => by omega⟩
    · rw [if_neg h, ih (k + 1)]
      constructor
      · rintro ⟨j, h1, h2, h3⟩; exact ⟨j, by omega, by omega, h3⟩
      · rintro ⟨j, h1, h2, h3⟩
        refine ⟨j, ?_, by omega, h3⟩
        rcases Nat.lt_or_ge k j with h4 | h4
        · omega
        · obtain rfl : j = k := by omega
          exact absurd h3 h
theorem firstI_step {p : Nat → Bool} {k n : Nat} (h : k < n) : firstI p (n - k) k = if p k = true then (k : Int) else firstI p (n - (k + 1)) (k + 1) := by
  rw [show n - k = n - (k + 1) + 1 by omega]; rfl
theorem firstI_ge (p : Nat → Bool) (r : Nat) : ∀ k, firstI p r k = -1 ∨ (k : Int) ≤ firstI p r k ∧ firstI p r k < (k : Int) + r := by
  induction r with
  | zero => intro k; exact .inl rfl
  | succ r ih =>
    intro k
    unfold firstI
    by_cases h : p k = true
    · rw [if_pos h]; right; omega
    · rw [if_neg h]
      rcases ih (k + 1) with h1 | h1
      · exact .inl h1
      · right; omega
theorem firstI_congr {p q : Nat → Bool} (r : Nat) : ∀ k, (∀ i, k ≤ i → i < k + r → p i = q i) → firstI p r k = firstI q r k := by
  induction r with
  | zero => intro k _; rfl
  | succ r ih =>
    intro k h
    unfold firstI
    rw [h k (Nat.le_refl _) (by omega), ih (k + 1) fun i h1 h2 => h i (by omega) (by omega)]
theorem firstI_eq {p : Nat → Bool} (r : Nat) : ∀ k j, firstI p r k = (j : Nat) ↔ (k ≤ j ∧ j < k + r) ∧ p j = true ∧ ∀ i, k ≤ i → i < j → p i = false := by
  induction r with
  | zero => intro k j; unfold firstI; constructor
            · intro h; omega
            · rintro ⟨h, _⟩; omega
  | succ r ih =>
    intro k j
    unfold firstI
    by_cases h : p k = true
    · rw [if_pos h]
      constructor
      · intro e
        obtain rfl : k = j := by omega
        exact ⟨by omega, h, fun i h1 h2 => by omega⟩
      · rintro ⟨h1, h2, h3⟩
        by_cases e : k = j
        · rw [e]
        · have := h3 k (Nat.le_refl _) (by omega)
          rw [h] at this; cases this
    · rw [if_neg h, ih (k + 1) j]
      have hk : p k = false := by simpa using h
      constructor
      · rintro ⟨h1, h2, h3⟩
        refine ⟨by omega, h2, fun i h4 h5 => ?_⟩
        by_cases e : i = k
        · rw [e]; exact hk
        · exact h3 i (by omega) h5
      · rintro ⟨h1, h2, h3⟩
        have : k ≠ j := fun e => by rw [e] at hk; rw [hk] at h2; cases h2
        exact ⟨by omega, h2, fun i h4 h5 => h3 i (by omega) h5⟩
def idxL (p : Nat → Bool) : Nat → List Int
  | 0 => []
  | k + 1 => if p k = true then idxL p k ++ [(k : Int)] else idxL p k
theorem idxL_yes {p : Nat → Bool} {k : Nat} (h : p k = true) : idxL p (k + 1) = idxL p k ++ [(k : Int)] := if_pos h
theorem idxL_no {p : Nat → Bool} {k : Nat} (h : p k = false) : idxL p (k + 1) = idxL p k := if_neg (by rw [h]; simp)
theorem idxL_len (p : Nat → Bool) : ∀ k, (idxL p k).length ≤ k := by
  intro k
  induction k with
  | zero => exact Nat.le_refl _
  | succ k ih =>
    unfold idxL
    split
    · simp; omega
    · omega
theorem idxL_congr {p q : Nat → Bool} : ∀ k, (∀ i, i < k → p i = q i) → idxL p k = idxL q k := by
  intro k
  induction k with
  | zero => intro _; rfl
  | succ k ih => intro h; unfold idxL; rw [h k (by omega), ih fun i hi => h i (by omega)]
def IntsL (w : World) (L : List Int) (e : Ending) (w' : World) : Prop :=
  ∃ v, e = .returned v ∧ w'.ownsRow w.heap.size 3 1 v L.length (L.map (Value.int .i64)) ∧ Below w.heap.size w w'
theorem IntsL.made {w w' : World} {L : List Int} {e : Ending} (h : IntsL w L e w') (hl : L.length ≤ 9223372036854775807) :
    ∃ v, e = .returned v ∧ IntRow w' v L.length (getI L) ∧ (∃ xs, w'.ownsRow w.heap.size 3 1 v L.length xs) ∧ Below w.heap.size w w' := by
  obtain ⟨v, he, ho, hb⟩ := h
  exact ⟨v, he, IntRow.of_list ho (by omega), ⟨_, ho⟩, hb⟩
end Go.Proofs.Ytmhkkdnopcdibaa
set_option linter.unusedVariables false
namespace Go.Proofs.Ytmhkkdnopcdibaa
open Go.RowKit

def tIntS : Ty := tSl 3 tInt
theorem opens_IntS : Opens Try.prog 31 tIntS := opens_sl Try.underlying31 (by kernel_rfl) (opens_int Try.underlying3 (by kernel_rfl))
theorem cells_int {d : List Int} {i : Nat} (hi : i < d.length) : cellsAt (fun z : Int => [Value.int .i64 z]) d i = [.int .i64 (getI d i)] := by
  refine (cellsAt_lt (List.getElem?_eq_getElem hi)).trans ?_
  unfold getI; simp [hi]
theorem rd_IntS {w : World} {v : Value} {d : List Int} : RdA tIntS w [v] d ↔ IntRow w v d.length (getI d) := by
  have e := fun i (hi : i < d.length) => cells_int hi
  exact flat_int.rdA.trans ⟨fun h => RecRow.ints (RecRow.congr h e), fun h => RecRow.congr h.rec fun i hi => (e i hi).symm⟩
theorem rdN_IntS {w : World} {lo hi : Nat} {v : Value} {d : List Int} (h : IntRow w v d.length (getI d)) (hi2 : InW lo hi v) : RdN tIntS w lo hi [v] d :=
  flat_int.reads (flat_int.row (rd_IntS.2 h)) fun _ q hq => hi2 q hq
theorem own_ints {w : World} {lo hi : Nat} {v : Value} {d : List Int} (h : w.ownsRow lo 3 1 v d.length (d.map (Value.int .i64))) (h1 : ∀ q, v.ownBlock = some q → q < hi) (hh : hi ≤ w.heap.size) : OwN tIntS w lo hi [v] d :=
  flat_int.made h (rd_IntS.2 (IntRow.of_list h (owns_max h))) h1 hh
theorem IntsL.owN {w w' : World} {L : List Int} {e : Ending} (h : IntsL w L e w') : MadeT tIntS L w e w' := by
  obtain ⟨v, he, ho, hb⟩ := h
  exact ⟨v, he, own_ints ho (fun q hq => (ho.lt q hq).2) (Nat.le_refl _), hb⟩
theorem wt_IntS (d : List Int) : tIntS.wt d = d.length := by
  show d.length + (d.map fun _ => 0).sum = d.length
  have := sum_zero (f := fun _ : Int => 0) (fun _ => rfl) d
  omega
theorem mks_IntS (d : List Int) : tIntS.mks d = d.length := (sum_const (f := fun _ : Int => 1) (fun _ => rfl) d).trans (Nat.one_mul _)
theorem mkl_IntS (d : List Int) (k : Int) : List.length (α := Int) (tIntS.mkd k d) = d.length := mkList_len _ _ _ _
theorem mk_IntS (d : List Int) (k : Int) (i : Nat) (hi : i < d.length) : getI (tIntS.mkd k d) i = k + (i : Int) := by
  have h := mkList_get (mks := tInt.mks) (mkd := tInt.mkd) (m := 1) (fun _ => rfl) d k i
  have h2 : (mkList tInt.mks tInt.mkd k d)[i]? = some (k + ((1 : Nat) : Int) * i) := by
    rw [h]
    have : d[i]? = some d[i] := List.getElem?_eq_getElem hi
    exact congrArg (Option.map (tInt.mkd (k + ((1 : Nat) : Int) * i))) this
  unfold getI
  show List.getD (α := Int) (mkList tInt.mks tInt.mkd k d) i 0 = _
  refine (List.getD_eq_getElem?_getD (α := Int)).trans ?_
  refine (congrArg (fun o => Option.getD (α := Int) o 0) h2).trans ?_
  show k + ((1 : Nat) : Int) * i = _
  omega
theorem y_sz_IntS (v : Value) (d : List Int) (left : Int) (w : World) (hl0 : 0 ≤ left) (hl : left ≤ 1048576) (h : RdA tIntS w [v] d) : Calls Try.prog 88 #[v, .int .i64 left] w (SzT tIntS d left w) :=
  (x_sz_IntS v d.length (getI d) left w hl0 hl (rd_IntS.1 h)).mono fun e w' ⟨⟨r, he, hr⟩, hb⟩ => ⟨⟨r, he, by rw [wt_IntS]; exact hr⟩, hb⟩
theorem y_to_IntS (v : Value) (d : List Int) (w : World) (h : RdA tIntS w [v] d) (hw : tIntS.wt d ≤ 1048576) : Calls Try.prog 30 #[v] w (MadeT tIntS d w) :=
  (x_to_IntS v d.length (getI d) w (rd_IntS.1 h) (by rw [wt_IntS] at hw; exact hw)).mono fun e w' ⟨v', he, hr, ⟨xs, ho⟩, hb⟩ => ⟨v', he, flat_int.made ho (rd_IntS.2 hr) (fun q hq => (ho.lt q hq).2) (Nat.le_refl _), hb⟩
theorem y_eq_IntS (v v' : Value) (d : List Int) (w : World) (h : RdA tIntS w [v] d) (h' : RdA tIntS w [v'] d) : Calls Try.prog 31 #[v, v'] w fun e w' => e = .returned (.bool true) ∧ Below w.heap.size w w' :=
  x_eq_IntS v d.length (getI d) v' w (rd_IntS.1 h) (rd_IntS.1 h')
theorem y_mk_IntS (v : Value) (d : List Int) (k : Int) (lo hi : Nat) (w : World) (h : OwN tIntS w lo hi [v] d) (h0 : 0 < k) (hk : k + tIntS.mks d ≤ 1000000000000) : Calls Try.prog 36 #[v, .int .i64 k] w (MarkT tIntS [v] d k lo hi w) := by
  obtain ⟨⟨xs, ho, _⟩, hin⟩ := flat_int.owned h
  have hm := mks_IntS d
  have hm2 : k + (d.length : Int) ≤ 1000000000000 := by omega
  refine (x_mk_IntS v d.length k lo hi lo xs w ho hin h0 hm2).mono fun e w' ⟨he, hr, ht⟩ => ⟨by rw [he, hm], ?_, ht⟩
  refine rdN_IntS ?_ hin
  have h1 := (IntRow.rec hr).congr (g' := fun i => [Value.int .i64 (getI (tIntS.mkd k d) i)]) (fun i hi => by rw [mk_IntS d k i hi])
  have h2 := h1.ints
  rw [← mkl_IntS d k] at h2
  exact h2
theorem y_hd_IntS (v : Value) (d : List Int) (k : Int) (w : World) (h : RdA tIntS w [v] (tIntS.mkd k d)) (h0 : 0 < k) (hk : k + tIntS.mks d ≤ 1000000000000) : Calls Try.prog 37 #[v, .int .i64 k] w (HeldT tIntS d k w) := by
  have hm := mks_IntS d
  have hm2 : k + (d.length : Int) ≤ 1000000000000 := by omega
  have hr : IntRow w v (List.length (α := Int) (tIntS.mkd k d)) (getI (tIntS.mkd k d)) := rd_IntS.1 h
  rw [mkl_IntS d k] at hr
  exact (x_hd_IntS v d.length k w (hr.rec.congr (fun i hi => by rw [mk_IntS d k i hi])).ints h0 hm2).mono fun e w' ⟨he, hb⟩ => ⟨by rw [he, hm], hb⟩
theorem yb_mk_IntS (v : Value) (d : List Int) (k : Int) (lo : Nat) (bs : List Nat) (w : World) (h : tIntS.Ow w lo [v] d bs) (hnd : bs.Nodup) (h0 : 0 < k) (hk : k + tIntS.mks d ≤ 1000000000000) : Calls Try.prog 36 #[v, .int .i64 k] w (MarkC tIntS [v] (tIntS.mkd k d) (tIntS.mks d) k bs w) :=
  flat_mark flat_int h fun lo hi ho => y_mk_IntS v d k lo hi w ho h0 hk
end Go.Proofs.Ytmhkkdnopcdibaa
set_option linter.unusedVariables false
namespace Go.Proofs.Ytmhkkdnopcdibaa
open Go.RowKit

def gapA {α : Type} (L : List α) (j : Nat) (u : α) : List α := L.take j ++ u :: L.drop j
section
variable {α β : Type} {L : List α} {j : Nat} {u x : α}
theorem gapA_len (h : j ≤ L.length) : (gapA L j u).length = L.length + 1 := by
  unfold gapA; simp; omega
theorem gapA_get {i : Nat} (h : i < j) (hj : j ≤ L.length) : (gapA L j u)[i]? = L[i]? := by
  unfold gapA
  rw [List.getElem?_append_left (by simp; omega), List.getElem?_take_of_lt h]
theorem gapA_set (hj : j ≤ L.length) : (gapA L j u).set j x = gapA L j x := by
  unfold gapA
  rw [List.set_append_right _ _ (by simp; omega)]
  simp [Nat.min_eq_left hj]
theorem gapA_step (h : L[j]? = some x) : gapA L (j + 1) x = gapA L j x := by
  have hj : j < L.length := (List.getElem?_eq_some_iff.1 h).1
  have hx : L[j] = x := (List.getElem?_eq_some_iff.1 h).2
  unfold gapA
  rw [(List.take_append_getElem hj).symm, List.drop_eq_getElem_cons hj, hx]
  simp only [List.append_assoc, List.cons_append, List.nil_append]
theorem gapA_end : gapA L L.length u = L ++ [u] := by
  unfold gapA; simp
theorem gapA_map (f : α → β) : (gapA L j u).map f = gapA (L.map f) j (f u) := by
  unfold gapA; simp
theorem gapA_mem {y : α} (h : y ∈ gapA L j u) : y = u ∨ y ∈ L := by
  unfold gapA at h
  rcases List.mem_append.1 h with h | h
  · exact .inr (List.mem_of_mem_take h)
  · rcases List.mem_cons.1 h with h | h
    · exact .inl h
    · exact .inr (List.mem_of_mem_drop h)
theorem gapA_pairwise {R : α → α → Prop} (hL : L.Pairwise R) (h1 : ∀ y ∈ L, R y u) (h2 : ∀ y ∈ L, R u y) : (gapA L j u).Pairwise R := by
  unfold gapA
  rw [List.pairwise_append, List.pairwise_cons]
  refine ⟨hL.sublist (List.take_sublist _ _), ⟨fun y hy => h2 y (List.mem_of_mem_drop hy), hL.sublist (List.drop_sublist _ _)⟩, fun a ha b hb => ?_⟩
  rcases List.mem_cons.1 hb with rfl | hb
  · exact h1 a (List.mem_of_mem_take ha)
  · have h3 : (L.take j ++ L.drop j).Pairwise R := by rw [List.take_append_drop]; exact hL
    exact (List.pairwise_append.1 h3).2.2 a ha b hb
end
def leadV {α : Type} (f : α → Int) (v : Int) : List α → Nat
  | [] => 0
  | y :: L => if v < f y then leadV f v L + 1 else 0
section
variable {α : Type} {f : α → Int} {v : Int}
theorem leadV_le (L : List α) : leadV f v L ≤ L.length := by
  induction L with
  | nil => exact Nat.le_refl _
  | cons y L ih => unfold leadV; split <;> simp <;> omega
theorem leadV_lt (L : List α) : ∀ i x, i < leadV f v L → L[i]? = some x → v < f x := by
  induction L with
  | nil => intro i x hi; exact absurd hi (by simp [leadV])
  | cons y L ih =>
    intro i x hi hx
    unfold leadV at hi
    split at hi
    · next h =>
      cases i with
      | zero => simp at hx; rw [← hx]; exact h
      | succ i => exact ih i x (by omega) (by simpa using hx)
    · omega
theorem leadV_ge (L : List α) : ∀ x, L[leadV f v L]? = some x → ¬ v < f x := by
  induction L with
  | nil => intro x h; simp at h
  | cons y L ih =>
    intro x h
    unfold leadV at h
    split at h
    · next hy => exact ih x (by simpa using h)
    · next hy => simp at h; rw [← h]; exact hy
end
def insP (v t : Int) : List (Int × List Int) → List (Int × List Int)
  | [] => [(v, [t])]
  | (u, p) :: r => if v < u then (u, p) :: insP v t r else if u = v then (u, p ++ [t]) :: r else (v, [t]) :: (u, p) :: r
theorem insP_new (v t : Int) : ∀ L : List (Int × List Int), (∀ x, L[leadV Prod.fst v L]? = some x → x.1 ≠ v) → insP v t L = gapA L (leadV Prod.fst v L) (v, [t])
  | [], _ => rfl
  | (u, p) :: r, h => by
    unfold insP leadV
    by_cases hu : v < u
    · rw [if_pos hu, if_pos hu, insP_new v t r (fun x hx => h x (by unfold leadV; rw [if_pos hu]; simpa using hx))]
      simp [gapA]
    · rw [if_neg hu, if_neg hu]
      have : u ≠ v := h (u, p) (by unfold leadV; rw [if_neg hu]; rfl)
      rw [if_neg this]
      simp [gapA]
theorem insP_old (v t : Int) : ∀ (L : List (Int × List Int)) (p : List Int), L[leadV Prod.fst v L]? = some (v, p) → insP v t L = L.set (leadV Prod.fst v L) (v, p ++ [t])
  | [], p, h => by simp at h
  | (u, q) :: r, p, h => by
    unfold insP
    unfold leadV at h ⊢
    by_cases hu : v < u
    · rw [if_pos hu] at h ⊢
      rw [if_pos hu, insP_old v t r p (by simpa using h)]
      simp
    · rw [if_neg hu] at h ⊢
      simp only [List.getElem?_cons_zero, Option.some.injEq, Prod.mk.injEq] at h
      obtain ⟨rfl, rfl⟩ := h
      rw [if_neg hu, if_pos rfl]
      simp
def splitP (V : Nat → Int) (gg : Nat → Int) : Nat → List (Int × List Int)
  | 0 => []
  | k + 1 => insP (V (gg k).toNat) (gg k) (splitP V gg k)
def ApartV (v v' : Value) : Prop := ∀ k, v.ownBlock = some k → v'.ownBlock ≠ some k
theorem ApartV.symm {v v' : Value} (h : ApartV v v') : ApartV v' v := fun k h1 h2 => h k h2 h1
def ApartL (l : List Value) : Prop := l.Pairwise ApartV
def OwnT (w : World) (base : Nat) (e : TypeId) (T : List (Int × Value × List Int)) : Prop := ∀ x ∈ T, w.ownsRow base e 1 x.2.1 x.2.2.length (x.2.2.map (Value.int .i64))
theorem OwnT.kept {w w' : World} {base : Nat} {e : TypeId} {T : List (Int × Value × List Int)} {row : Option Nat} (h : OwnT w base e T) (hg : w.grownBy w' row) (hne : ∀ x ∈ T, ∀ k, x.2.1.ownBlock = some k → row ≠ some k) : OwnT w' base e T := fun x hx =>
  (h x hx).kept hg (by
    cases hv : x.2.1.ownBlock with
    | none => exact .inl rfl
    | some k => exact .inr fun e => hne x hx k hv e.symm)
theorem OwnT.below {w w' : World} {base B : Nat} {e : TypeId} {T : List (Int × Value × List Int)} (h : OwnT w base e T) (hb : Below B w w') (hB : w.heap.size ≤ B) : OwnT w' base e T := fun x hx => owns_below (h x hx) hb hB
theorem OwnT.lt {w : World} {base : Nat} {e : TypeId} {T : List (Int × Value × List Int)} (h : OwnT w base e T) {x : Int × Value × List Int} (hx : x ∈ T) {k : Nat} (hk : x.2.1.ownBlock = some k) : base ≤ k ∧ k < w.heap.size := (h x hx).lt k hk
theorem OwnT.mono {w : World} {base base' : Nat} {e : TypeId} {T : List (Int × Value × List Int)} (h : OwnT w base e T) (hb : base' ≤ base) : OwnT w base' e T := fun x hx => owns_mono (h x hx) hb
end Go.Proofs.Ytmhkkdnopcdibaa
set_option linter.unusedVariables false
namespace Go.Proofs.Ytmhkkdnopcdibaa
open Go.RowKit

theorem rd_elem {t : TypeId} {e : Ty} {w : World} {B : Nat → Prop} {v : Value} {d : List e.D} (he : e.n = 1) (h : (tSl t e).Rd w B [v] d) {i : Nat} {x : e.D} (hx : d[i]? = some x) :
    ∃ b off cap u, v = .slice (some ⟨b, off, none⟩) d.length cap ∧ d.length ≤ cap ∧ i < d.length ∧ w.cell? ⟨b, off + i, none⟩ = some u ∧ e.Rd w B [u] x := by
  obtain ⟨v', ce, hv, h1, _, h3⟩ := h
  simp only [List.cons.injEq, and_true] at hv
  subst hv
  have hi := (List.getElem?_eq_some_iff.1 hx).1
  rcases h1 with ⟨_, _, _, h0⟩ | ⟨b, off, cap, rfl, _, _, hc, hcap⟩
  · omega
  have hl := e.rd_len (h3 i x hx)
  rw [he] at hl
  obtain ⟨u, hu⟩ := List.length_eq_one_iff.1 hl
  have h4 := (hc i hi).2 0 u (by rw [hu]; rfl)
  rw [he, Nat.mul_one, Nat.add_zero] at h4
  have h5 := h3 i x hx
  rw [hu] at h5
  exact ⟨b, off, cap, u, rfl, hcap, hi, h4, h5⟩
theorem rd_cell {t : TypeId} {e : Ty} {w : World} {B : Nat → Prop} {v : Value} {d : List e.D} (he : e.n = 1) (h : (tSl t e).Rd w B [v] d) {i : Nat} {x : e.D} (hx : d[i]? = some x) :
    ∃ b off cap u, v = .slice (some ⟨b, off, none⟩) d.length cap ∧ d.length ≤ cap ∧ CellsAt w b (off + i) [u] ∧ e.Rd w B [u] x := by
  obtain ⟨b, off, cap, u, h1, h2, _, h4, h5⟩ := rd_elem he h hx
  refine ⟨b, off, cap, u, h1, h2, ⟨World.block_lt_of_cell? w _ h4, fun j y hj => ?_⟩, h5⟩
  match j, hj with
  | 0, hj => simp only [List.getElem?_cons_zero, Option.some.injEq] at hj; subst hj; exact h4
theorem rd_row_form {t : TypeId} {e : Ty} {w : World} {B : Nat → Prop} {v : Value} {d : List e.D} (h : (tSl t e).Rd w B [v] d) : ∃ a cap, v = .slice a d.length cap ∧ d.length ≤ 9223372036854775807 := by
  obtain ⟨v', ce, hv, h1, _⟩ := h
  simp only [List.cons.injEq, and_true] at hv
  subst hv
  obtain ⟨a, c, h2, h3, _⟩ := h1.form
  exact ⟨a, c, h2, h3⟩
theorem flat_nodup {f : Nat → List Nat} : ∀ {n : Nat}, ((List.range n).flatMap f).Nodup → (∀ i, i < n → (f i).Nodup) ∧ ∀ i j, i < n → j < n → i ≠ j → ∀ q, q ∈ f i → q ∉ f j
  | 0, _ => ⟨fun i hi => absurd hi (Nat.not_lt_zero _), fun i j hi => absurd hi (Nat.not_lt_zero _)⟩
  | n + 1, h => by
    rw [List.range_succ, List.flatMap_append, List.nodup_append] at h
    obtain ⟨h1, h2, h3⟩ := h
    have h2' : (f n).Nodup := by simpa using h2
    obtain ⟨a1, a2⟩ := flat_nodup h1
    have h4 : ∀ i, i < n → ∀ q, q ∈ f i → q ∉ f n := fun i hi q hq hq2 => h3 q (List.mem_flatMap.2 ⟨i, List.mem_range.2 hi, hq⟩) q (by simpa using hq2) rfl
    refine ⟨fun i hi => ?_, fun i j hi hj hne q hq hq2 => ?_⟩
    · by_cases e : i = n
      · rw [e]; exact h2'
      · exact a1 i (by omega)
    · by_cases e : i = n
      · rw [e] at hq
        exact h4 j (by omega) q hq2 hq
      · by_cases e2 : j = n
        · rw [e2] at hq2
          exact h4 i (by omega) q hq hq2
        · exact a2 i j (by omega) (by omega) hne q hq hq2
theorem mkList_at {α : Type} {mks : α → Nat} {mkd : Int → α → α} : ∀ (L : List α) (k : Int) (i : Nat), (mkList mks mkd k L)[i]? = (L[i]?).map (mkd (k + (((L.take i).map mks).sum : Nat)))
  | [], _, _ => rfl
  | x :: r, k, 0 => by unfold mkList; simp
  | x :: r, k, i + 1 => by
    unfold mkList
    rw [List.getElem?_cons_succ, List.getElem?_cons_succ, mkList_at r, List.take_succ_cons, List.map_cons, List.sum_cons]
    congr 2
    omega
theorem take_sum {α : Type} {f : α → Nat} {L : List α} {i : Nat} {x : α} (hx : L[i]? = some x) : ((L.take (i + 1)).map f).sum = ((L.take i).map f).sum + f x := by
  rw [List.take_add_one, hx, List.map_append, List.sum_append]; simp
theorem take_sum_le {α : Type} {f : α → Nat} {L : List α} (i : Nat) : ((L.take i).map f).sum ≤ (L.map f).sum := by
  have h := congrArg List.sum (congrArg (List.map f) (List.take_append_drop i L))
  rw [List.map_append, List.sum_append] at h
  omega
theorem range_flat_succ {f : Nat → List Nat} (j : Nat) : (List.range (j + 1)).flatMap f = (List.range j).flatMap f ++ f j := by
  rw [List.range_succ, List.flatMap_append]; simp
structure RowsOw (t : TypeId) (e : Ty) (w : World) (lo : Nat) (v : Value) (d : List e.D) (bs : List Nat) (f : Nat → List Nat) (us : Nat → Value) : Prop where
  row : RecRow 1 w v d.length fun i => [us i]
  own : ∀ i x, d[i]? = some x → e.Ow w lo [us i] x (f i)
  outer : ∀ q, v.ownBlock = some q → q ∈ bs ∧ ∀ i, i < d.length → q ∉ f i
  inner : ∀ i, i < d.length → ∀ q, q ∈ f i → q ∈ bs
  nodup : ∀ i, i < d.length → (f i).Nodup
  apart : ∀ i j, i < d.length → j < d.length → i ≠ j → ∀ q, q ∈ f i → q ∉ f j
theorem RowsOw.of {t : TypeId} {e : Ty} {w : World} {lo : Nat} {v : Value} {d : List e.D} {bs : List Nat} (he : e.n = 1) (h : (tSl t e).Ow w lo [v] d bs) (hnd : bs.Nodup) : ∃ f us, RowsOw t e w lo v d bs f us := by
  obtain ⟨v', xs, f, hv, h1, h2, rfl⟩ := h
  simp only [List.cons.injEq, and_true] at hv
  subst hv
  rw [List.nodup_append] at hnd
  obtain ⟨n1, n2, n3⟩ := hnd
  obtain ⟨a1, a2⟩ := flat_nodup n2
  have hx : ∀ i, i < d.length → (xs.drop (i * e.n)).take e.n = [xs.getD i undef] := fun i hi => by
    have hl := h1.1
    rw [he, Nat.mul_one] at hl
    rw [he, Nat.mul_one, List.drop_eq_getElem_cons (by omega : i < xs.length), List.getD_eq_getElem?_getD, List.getElem?_eq_getElem (by omega : i < xs.length)]
    rfl
  refine ⟨f, fun i => xs.getD i undef, ?_, fun i x hxi => ?_, fun q hq => ⟨List.mem_append_left _ (by rw [hq]; simp), fun i hi hqi => ?_⟩, fun i hi q hq => List.mem_append_right _ (List.mem_flatMap.2 ⟨i, List.mem_range.2 hi, hq⟩), a1, a2⟩
  · have h3 := recRow_own h1 (owns_max h1)
    rw [he] at h3
    exact h3.congr fun i hi => by have := hx i hi; rw [he] at this; exact this
  · have h4 := h2 i x hxi
    rw [hx i (List.getElem?_eq_some_iff.1 hxi).1] at h4
    exact h4
  · exact n3 q (by rw [hq]; simp) q (List.mem_flatMap.2 ⟨i, List.mem_range.2 hi, hqi⟩) rfl
theorem RowsOw.cell {t : TypeId} {e : Ty} {w : World} {lo : Nat} {v : Value} {d : List e.D} {bs : List Nat} {f : Nat → List Nat} {us : Nat → Value} (h : RowsOw t e w lo v d bs f us) {w' : World} {cs : List Nat} (hk : KeepB cs w w') (hc : ∀ q, v.ownBlock = some q → q ∉ cs) {i : Nat} (hi : i < d.length) :
    ∃ b off cap, v = .slice (some ⟨b, off, none⟩) d.length cap ∧ d.length ≤ cap ∧ w'.cell? ⟨b, off + i, none⟩ = some (us i) := by
  have hr := h.row.frame (w' := w') (fun _ q hq hl => hk.block q hl (hc q hq)) hk.size
  rcases hr with ⟨_, _, _, h0⟩ | ⟨b, off, cap, rfl, _, _, hcc, hcap⟩
  · omega
  · have := (hcc i hi).2 0 (us i) rfl
    rw [Nat.mul_one, Nat.add_zero] at this
    exact ⟨b, off, cap, rfl, hcap, this⟩
theorem RowsOw.done {t : TypeId} {e : Ty} {w w' : World} {lo : Nat} {v : Value} {d : List e.D} {bs : List Nat} {f : Nat → List Nat} {us : Nat → Value} (he : e.n = 1) (h : RowsOw t e w lo v d bs f us) {k : Int} (hk : KeepB ((List.range d.length).flatMap f) w w')
    (hm : ∀ i x, d[i]? = some x → e.Rd w' (fun q => q ∈ f i) [us i] (e.mkd (k + (((d.take i).map e.mks).sum : Nat)) x)) : (tSl t e).Rd w' (fun q => q ∈ bs) [v] ((tSl t e).mkd k d) ∧ KeepB bs w w' := by
  have hnot : ∀ q, v.ownBlock = some q → q ∉ (List.range d.length).flatMap f := fun q hq hqf => by
    obtain ⟨i, hi, hqi⟩ := List.mem_flatMap.1 hqf
    exact (h.outer q hq).2 i (List.mem_range.1 hi) hqi
  refine ⟨⟨v, fun i => [us i], rfl, ?_, fun _ q hq => (h.outer q hq).1, fun i x hx => ?_⟩, hk.mono fun q hq => ?_⟩
  · have hl : List.length (α := e.D) ((tSl t e).mkd k d) = d.length := mkList_len _ _ _ _
    rw [hl, he]
    exact h.row.frame (fun _ q hq hl => hk.block q hl (hnot q hq)) hk.size
  · have h1 : (mkList e.mks e.mkd k d)[i]? = some x := hx
    rw [mkList_at] at h1
    obtain ⟨y, hy, rfl⟩ := Option.map_eq_some_iff.1 h1
    exact e.rd_mono (hm i y hy) (h.inner i (List.getElem?_eq_some_iff.1 hy).1)
  · obtain ⟨i, hi, hqi⟩ := List.mem_flatMap.1 hq
    exact h.inner i (List.mem_range.1 hi) q hqi
theorem nodup_blocks : ∀ (L : List Value), L.Pairwise ApartV → (L.flatMap fun v => v.ownBlock.toList).Nodup
  | [], _ => List.nodup_nil
  | v :: L, h => by
    rw [List.flatMap_cons, List.nodup_append]
    obtain ⟨h1, h2⟩ := List.pairwise_cons.1 h
    refine ⟨by cases v.ownBlock <;> simp, nodup_blocks L h2, fun a ha b hb e => ?_⟩
    subst e
    obtain ⟨u, hu, hau⟩ := List.mem_flatMap.1 hb
    have a1 : v.ownBlock = some a := by
      cases hv : v.ownBlock with
      | none => rw [hv] at ha; cases ha
      | some z => rw [hv] at ha; simp at ha; rw [ha]
    have a2 : u.ownBlock = some a := by
      cases hv : u.ownBlock with
      | none => rw [hv] at hau; cases hau
      | some z => rw [hv] at hau; simp at hau; rw [hau]
    exact h1 u hu a a1 a2
end Go.Proofs.Ytmhkkdnopcdibaa
