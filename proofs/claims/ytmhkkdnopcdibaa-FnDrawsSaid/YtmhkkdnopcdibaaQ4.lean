/-
  Packed: Lists2, TyIntSS, TySlTo, TyIntSSt, TyPots.
-/
import Derived.OneCell
import Derived.Test.YtmhkkdnopcdibaaQ1
import Derived.Test.YtmhkkdnopcdibaaQ2
import Derived.Test.YtmhkkdnopcdibaaQ3
set_option linter.unusedVariables false
namespace Go.Proofs.Ytmhkkdnopcdibaa
open Go.RowKit

theorem pairwise_set {α : Type} {R : α → α → Prop} (hs : ∀ a b, R a b → R b a) : ∀ (l : List α) (i : Nat) (x : α), l.Pairwise R → (∀ j y, j ≠ i → l[j]? = some y → R x y) → (l.set i x).Pairwise R
  | [], _, _, h, _ => by simp
  | y :: l, 0, x, h, hx => by
    rw [List.set_cons_zero, List.pairwise_cons]
    exact ⟨fun z hz => by obtain ⟨j, hj⟩ := List.mem_iff_getElem?.1 hz; exact hx (j + 1) z (by omega) (by simpa using hj), (List.pairwise_cons.1 h).2⟩
  | y :: l, i + 1, x, h, hx => by
    rw [List.set_cons_succ, List.pairwise_cons]
    refine ⟨fun z hz => ?_, pairwise_set hs l i x (List.pairwise_cons.1 h).2 fun j z hj hz => hx (j + 1) z (by omega) (by simpa using hz)⟩
    rcases List.mem_or_eq_of_mem_set hz with hz | rfl
    · exact (List.pairwise_cons.1 h).1 z hz
    · exact hs _ _ (hx 0 y (by omega) rfl)
theorem pairwise_at {α : Type} {R : α → α → Prop} (hs : ∀ a b, R a b → R b a) : ∀ (l : List α) (i j : Nat) (x y : α), l.Pairwise R → l[i]? = some x → l[j]? = some y → i ≠ j → R x y
  | [], _, _, _, _, _, h, _, _ => by simp at h
  | z :: l, 0, 0, _, _, _, _, _, hn => absurd rfl hn
  | z :: l, 0, j + 1, x, y, h, h1, h2, _ => by
    simp only [List.getElem?_cons_zero, Option.some.injEq] at h1
    subst h1
    exact (List.pairwise_cons.1 h).1 y (List.mem_of_getElem? (by simpa using h2))
  | z :: l, i + 1, 0, x, y, h, h1, h2, _ => by
    simp only [List.getElem?_cons_zero, Option.some.injEq] at h2
    subst h2
    exact hs _ _ ((List.pairwise_cons.1 h).1 x (List.mem_of_getElem? (by simpa using h1)))
  | z :: l, i + 1, j + 1, x, y, h, h1, h2, hn => pairwise_at hs l i j x y (List.pairwise_cons.1 h).2 (by simpa using h1) (by simpa using h2) (by omega)
def SplitSt (w : World) (B : Nat) (ov av : Value) (T : List (Int × Value × List Int)) : Prop :=
  w.ownsRow B 31 1 ov T.length (T.map fun x => x.2.1) ∧ w.ownsRow B 3 1 av T.length (T.map fun x => Value.int .i64 x.1) ∧ OwnT w B 3 T ∧ ApartL (ov :: av :: T.map fun x => x.2.1)
theorem SplitSt.below {w w' : World} {B C : Nat} {ov av : Value} {T : List (Int × Value × List Int)} (h : SplitSt w B ov av T) (hb : Below C w w') (hC : w.heap.size ≤ C) : SplitSt w' B ov av T :=
  ⟨owns_below h.1 hb hC, owns_below h.2.1 hb hC, h.2.2.1.below hb hC, h.2.2.2⟩
theorem apart_ne {v : Value} {g : Nat} {n c : Nat} (h : ApartV (.slice (some ⟨g, 0, none⟩) n c) v) : v.ownBlock ≠ some g := h g rfl
theorem SplitSt.old {w w' : World} {B og oc ld gg m c' : Nat} {av iv : Value} {v t : Int} {p : List Int} {T : List (Int × Value × List Int)}
    (h : SplitSt w B (.slice (some ⟨og, 0, none⟩) T.length oc) av T) (hx : T[ld]? = some (v, iv, p)) (hg : w.grownBy w' iv.ownBlock)
    (ho : w'.ownsRow B 3 1 (.slice (some ⟨gg, 0, none⟩) (p.length + 1) c') (p.length + 1) (p.map (Value.int .i64) ++ [.int .i64 t])) (hat : iv.ownBlock = some gg ∨ w.heap.size ≤ gg) :
    SplitSt (w'.setCell ⟨og, ld, none⟩ (.slice (some ⟨gg, 0, none⟩) (p.length + 1) c')) B (.slice (some ⟨og, 0, none⟩) T.length oc) av (T.set ld (v, .slice (some ⟨gg, 0, none⟩) (p.length + 1) c', p ++ [t])) := by
  obtain ⟨h1, h2, h3, h4⟩ := h
  have hld : ld < T.length := (List.getElem?_eq_some_iff.1 hx).1
  have ha := List.pairwise_cons.1 h4
  have hb := List.pairwise_cons.1 ha.2
  have hm : ∀ x ∈ T, x.2.1 ∈ T.map fun x => x.2.1 := fun x hx => List.mem_map.2 ⟨x, hx, rfl⟩
  have hxm : (v, iv, p) ∈ T := List.mem_of_getElem? hx
  have hoi : ∀ k, iv.ownBlock = some k → og ≠ k := fun k hk e => ha.1 iv (List.mem_cons_of_mem _ (hm _ hxm)) og rfl (by rw [e]; exact hk)
  have hai : ∀ k, iv.ownBlock = some k → av.ownBlock ≠ some k := fun k hk e => hb.1 iv (hm _ hxm) k e hk
  have hoL := h1.lt og rfl
  have hgo : gg ≠ og := by
    rcases hat with h | h
    · exact fun e => hoi gg h e.symm
    · omega
  have hblk : ∀ k, (Value.slice (some ⟨gg, 0, none⟩) (p.length + 1) c').ownBlock = some k → k = gg := fun k hk => by simpa [Value.ownBlock] using hk.symm
  have hao : av.ownBlock ≠ some og := ha.1 av (List.mem_cons_self ..) og rfl
  have hmap : (T.set ld (v, Value.slice (some ⟨gg, 0, none⟩) (p.length + 1) c', p ++ [t])).map (fun x => x.2.1) = (T.map fun x => x.2.1).set ld (.slice (some ⟨gg, 0, none⟩) (p.length + 1) c') := by rw [List.map_set]
  refine ⟨?_, ?_, ?_, ?_⟩
  · rw [hmap, List.length_set]
    exact ((h1.kept hg (.inr (by cases hk : iv.ownBlock with
      | none => simp [Value.ownBlock]
      | some k => have := hoi k hk; simp [Value.ownBlock]; exact this))).stored ld _).1
  · rw [List.length_set]
    have hmap2 : (T.set ld (v, Value.slice (some ⟨gg, 0, none⟩) (p.length + 1) c', p ++ [t])).map (fun x => Value.int .i64 x.1) = T.map fun x => Value.int .i64 x.1 := by
      rw [List.map_set]
      apply List.ext_getElem?
      intro j
      by_cases e : ld = j
      · subst e
        rw [List.getElem?_set_self (by simpa using hld), List.getElem?_map, hx]
        rfl
      · rw [List.getElem?_set_ne e]
    rw [hmap2]
    refine ownsRow_setCell_other (h2.kept hg ?_) hao _
    cases hk : iv.ownBlock with
    | none => cases hk2 : av.ownBlock with
      | none => exact .inl rfl
      | some k2 => exact .inr (by simp)
    | some k => exact .inr fun e => hai k hk e
  · intro x hxs
    obtain ⟨j, hj⟩ := List.mem_iff_getElem?.1 hxs
    by_cases e : ld = j
    · subst e
      rw [List.getElem?_set_self hld, Option.some.injEq] at hj
      subst hj
      refine ownsRow_setCell_other ?_ ?_ _
      · simpa using ho
      · exact fun e => hgo (hblk og e).symm
    · rw [List.getElem?_set_ne e] at hj
      have hxT := List.mem_of_getElem? hj
      refine ownsRow_setCell_other ((h3 x hxT).kept hg ?_) ?_ _
      · have hap := pairwise_at (fun a b => ApartV.symm) _ ld j iv x.2.1 hb.2 (by rw [List.getElem?_map, hx]; rfl) (by rw [List.getElem?_map, hj]; rfl) e
        cases hk : iv.ownBlock with
        | none => cases hk2 : x.2.1.ownBlock with
          | none => exact .inl rfl
          | some k2 => exact .inr (by simp)
        | some k => exact .inr (hap k hk)
      · exact ha.1 x.2.1 (List.mem_cons_of_mem _ (hm x hxT)) og rfl
  · rw [hmap]
    refine List.pairwise_cons.2 ⟨fun z hz => ?_, List.pairwise_cons.2 ⟨fun z hz => ?_, ?_⟩⟩
    · rcases List.mem_cons.1 hz with rfl | hz
      · exact ha.1 _ (List.mem_cons_self ..)
      · rcases List.mem_or_eq_of_mem_set hz with hz | rfl
        · exact ha.1 z (List.mem_cons_of_mem _ hz)
        · exact fun k h1 h2 => hgo ((hblk k h2).symm.trans (by simpa [Value.ownBlock] using h1.symm))
    · rcases List.mem_or_eq_of_mem_set hz with hz | rfl
      · exact hb.1 z hz
      · intro k h1 h2'
        have := hblk k h2'
        subst this
        rcases hat with h | h
        · exact hai k h h1
        · have := (h2.lt k h1).2; omega
    · refine pairwise_set (fun a b => ApartV.symm) _ _ _ hb.2 fun j y hj hy => ?_
      intro k h1 h2'
      have := hblk k h1
      subst this
      rcases hat with h | h
      · exact pairwise_at (fun a b => ApartV.symm) _ ld j iv y hb.2 (by rw [List.getElem?_map, hx]; rfl) hy (by omega) k h h2'
      · rw [List.getElem?_map] at hy
        cases hT : T[j]? with
        | none => rw [hT] at hy; cases hy
        | some z =>
          rw [hT] at hy
          simp only [Option.map_some, Option.some.injEq] at hy
          subst hy
          have := (h3.lt (List.mem_of_getElem? hT) h2').2
          omega
theorem SplitSt.new {w w' : World} {B ga ca go co D ld : Nat} {v t : Int} {T : List (Int × Value × List Int)}
    (h1 : w.ownsRow B 31 1 (.slice (some ⟨go, 0, none⟩) (T.length + 1) co) (T.length + 1) (gapA (T.map fun x => x.2.1) ld (.slice (some ⟨D, 0, none⟩) 1 1)))
    (h2 : w.ownsRow B 3 1 (.slice (some ⟨ga, 0, none⟩) (T.length + 1) ca) (T.length + 1) ((gapA (T.map Prod.fst) ld v).map (Value.int .i64)))
    (h3 : OwnT w B 3 T) (h4 : ApartL (T.map fun x => x.2.1)) (h5 : w.ownsRow B 3 1 (.slice (some ⟨D, 0, none⟩) 1 1) 1 [.int .i64 t])
    (hgo : ∀ x ∈ T, x.2.1.ownBlock ≠ some go) (hga : ∀ x ∈ T, x.2.1.ownBlock ≠ some ga) (hD : ∀ x ∈ T, x.2.1.ownBlock ≠ some D) (hn1 : go ≠ ga) (hn2 : go ≠ D) (hn3 : ga ≠ D) (hld : ld ≤ T.length) :
    SplitSt w B (.slice (some ⟨go, 0, none⟩) (T.length + 1) co) (.slice (some ⟨ga, 0, none⟩) (T.length + 1) ca) (gapA T ld (v, .slice (some ⟨D, 0, none⟩) 1 1, [t])) := by
  have hl : (gapA T ld (v, Value.slice (some ⟨D, 0, none⟩) 1 1, [t])).length = T.length + 1 := gapA_len hld
  have hb : ∀ (g n c k : Nat), (Value.slice (some ⟨g, 0, none⟩) n c).ownBlock = some k → k = g := fun g n c k hk => by simpa [Value.ownBlock] using hk.symm
  have hin : ∀ y ∈ gapA (T.map fun x => x.2.1) ld (Value.slice (some ⟨D, 0, none⟩) 1 1), y = .slice (some ⟨D, 0, none⟩) 1 1 ∨ ∃ x ∈ T, x.2.1 = y := fun y hy => by
    rcases gapA_mem hy with h | h
    · exact .inl h
    · exact .inr (List.mem_map.1 h)
  refine ⟨by rw [hl, gapA_map]; exact h1, ?_, ?_, ?_⟩
  · rw [hl, gapA_map]
    rw [gapA_map, List.map_map] at h2
    exact h2
  · intro x hx
    rcases gapA_mem hx with rfl | hx
    · exact h5
    · exact h3 x hx
  · rw [gapA_map]
    refine List.pairwise_cons.2 ⟨fun z hz => ?_, List.pairwise_cons.2 ⟨fun z hz => ?_, gapA_pairwise h4 (fun y hy => ?_) fun y hy => ?_⟩⟩
    · rcases List.mem_cons.1 hz with rfl | hz
      · intro k e1 e2
        exact hn1 ((hb _ _ _ _ e1).symm.trans (hb _ _ _ _ e2))
      · rcases hin z hz with rfl | ⟨x, hx, rfl⟩
        · intro k e1 e2
          exact hn2 ((hb _ _ _ _ e1).symm.trans (hb _ _ _ _ e2))
        · intro k e1 e2
          have := hb _ _ _ _ e1
          subst this
          exact hgo x hx e2
    · rcases hin z hz with rfl | ⟨x, hx, rfl⟩
      · intro k e1 e2
        exact hn3 ((hb _ _ _ _ e1).symm.trans (hb _ _ _ _ e2))
      · intro k e1 e2
        have := hb _ _ _ _ e1
        subst this
        exact hga x hx e2
    · obtain ⟨x, hx, rfl⟩ := List.mem_map.1 hy
      intro k e1 e2
      have := hb _ _ _ _ e2
      subst this
      exact hD x hx e1
    · obtain ⟨x, hx, rfl⟩ := List.mem_map.1 hy
      intro k e1 e2
      have := hb _ _ _ _ e1
      subst this
      exact hD x hx e2
theorem OwnT.store {w : World} {B : Nat} {e : TypeId} {T : List (Int × Value × List Int)} (h : OwnT w B e T) {a : Addr} (ha : ∀ x ∈ T, x.2.1.ownBlock ≠ some a.block) (u : Value) : OwnT (w.setCell a u) B e T :=
  fun x hx => ownsRow_setCell_other (h x hx) (ha x hx) u
def LL (w : World) (B : Nat) (v : Value) (T : List (Value × List Int)) : Prop :=
  w.ownsRow B 31 1 v T.length (T.map Prod.fst) ∧ (∀ x ∈ T, w.ownsRow B 3 1 x.1 x.2.length (x.2.map (Value.int .i64))) ∧ ApartL (v :: T.map Prod.fst)
theorem LL.below {w w' : World} {B C : Nat} {v : Value} {T : List (Value × List Int)} (h : LL w B v T) (hb : Below C w w') (hC : w.heap.size ≤ C) : LL w' B v T :=
  ⟨owns_below h.1 hb hC, fun x hx => owns_below (h.2.1 x hx) hb hC, h.2.2⟩
theorem LL.mono {w : World} {B B' : Nat} {v : Value} {T : List (Value × List Int)} (h : LL w B v T) (hb : B' ≤ B) : LL w B' v T :=
  ⟨owns_mono h.1 hb, fun x hx => owns_mono (h.2.1 x hx) hb, h.2.2⟩
theorem SplitSt.ll {w : World} {B : Nat} {ov av : Value} {T : List (Int × Value × List Int)} (h : SplitSt w B ov av T) : LL w B ov (T.map Prod.snd) := by
  obtain ⟨h1, _, h3, h4⟩ := h
  refine ⟨by rw [List.length_map, List.map_map]; exact h1, fun x hx => ?_, ?_⟩
  · obtain ⟨y, hy, rfl⟩ := List.mem_map.1 hx
    exact h3 y hy
  · rw [List.map_map]
    have ha := List.pairwise_cons.1 h4
    exact List.pairwise_cons.2 ⟨fun z hz => ha.1 z (List.mem_cons_of_mem _ hz), (List.pairwise_cons.1 ha.2).2⟩
theorem wpList_appendR {P : Program} {w : World} {ops : Array Oper} {rest : List Oper} {o : Oper} {a : Act} {Q : Exit → Act → World → Prop} (hgd : o.guard = none) (s x : Operand) (t : TypeId)
    (ho : o.op = .call { callee := .builtin .append, args := #[s, x], argTypes := #[t, t] })
    (base : Nat) (e : TypeId) {i : TypeInfo} {z : Value} {k bytes : Nat} (ht : P.underlying t = some (.slice e)) (hi : P.info? e = some i) (hz : i.zero = some z) (hsize : i.size = k) (hby : i.bytes = bytes) (hzs : z.cells.size = k) (hk0 : 0 < k)
    {v u : Value} {n m : Nat} {xs : List Value} {g : Nat → List Value} (hs : a.eval s = v) (hown : w.ownsRow base e k v n xs) (hx : a.eval x = u) (hrow : RecRow k w u m g) (hgl : ∀ i, i < m → (g i).length = k) (h1 : ∀ i, i < m → ∀ u ∈ g i, u.oneCell' = true)
    (hm : n + m ≤ 1048576) (hb : bytes ≤ 1048576) (hbase : base ≤ w.heap.size)
    (h : ∀ vv w', w'.ownsRow base e k vv (n + m) (xs ++ flatR g m) → w.grownBy w' v.ownBlock → (∀ q, vv.ownBlock = some q → v.ownBlock = some q ∨ w.heap.size ≤ q) → wpList P ops Q rest (a.put o.dst vv) w') : wpList P ops Q (o :: rest) a w := by
  rcases hrow with ⟨ad, cap, rfl, rfl⟩ | ⟨b, off, c, rfl, h0, _, hc, _⟩
  · exact wpList_appendZero hgd s x t ho base e i k ht hi v n xs hs hown ad cap hx (h _ _ (by simpa [flatR] using hown) ⟨rfl, rfl, rfl, Nat.le_refl _, fun _ _ _ => rfl⟩ fun q hq => .inl hq)
  · have hmul : (n + m) * bytes ≤ 1048576 * 1048576 := Nat.mul_le_mul hm hb
    refine wpList_append_lies _ hgd s x t ho base e i z k bytes ht hi hz hsize hby hzs hk0 v n xs hs hown ⟨b, off, none⟩ m c (flatR g m) hx (flatR_len k g m hgl) ?_ ?_ h0 (by unfold maxLen; omega) (by omega) hbase _ rfl ?_
    · intro j u hu
      obtain ⟨hj, hv⟩ := flatR_get k g m hgl hk0 j u hu
      have hadd : (⟨b, off, none⟩ : Addr).add j = ⟨b, off + j, none⟩ := by unfold Addr.add; split <;> simp_all
      have hq := (hc _ hj).2 _ u hv
      rw [show off + j / k * k + j % k = off + j by rw [Nat.add_assoc, Nat.mul_comm, Nat.div_add_mod]] at hq
      rw [hadd]
      exact hq
    · intro u hu
      unfold flatR at hu
      rw [List.mem_flatMap] at hu
      obtain ⟨j, hj, hu⟩ := hu
      exact h1 j (List.mem_range.1 hj) u hu
    · intro gg cap w' ho' hg' hat hlt
      refine h _ w' ho' hg' fun q hq => ?_
      have hq' : gg = q := by simpa [Value.ownBlock] using hq
      subst hq'
      rcases hat with h5 | h5
      · exact .inl h5
      · exact .inr (by omega)
theorem OwnT_nil {w : World} {B : Nat} {e : TypeId} : OwnT w B e [] := fun x hx => by cases hx
theorem one_of_slice {v : Value} {w : World} {base : Nat} {e : TypeId} {size n : Nat} {xs : List Value} (h : w.ownsRow base e size v n xs) : v.oneCell' = true := by
  obtain ⟨a, c, rfl⟩ := owns_form h
  rfl
theorem LL.append {w w0 w' : World} {B B' : Nat} {v v2 vv : Value} {T T2 : List (Value × List Int)} (h : LL w0 B v T) (hw : Below w0.heap.size w0 w) (h2 : LL w B' v2 T2) (hB : B ≤ B') (hB2 : w0.heap.size ≤ B')
    (ho : w'.ownsRow B 31 1 vv (T.length + T2.length) (T.map Prod.fst ++ T2.map Prod.fst)) (hg : w.grownBy w' v.ownBlock) (hat : ∀ q, vv.ownBlock = some q → v.ownBlock = some q ∨ w.heap.size ≤ q) : LL w' B vv (T ++ T2) := by
  have h' := h.below hw (Nat.le_refl _)
  have hA := List.pairwise_cons.1 h.2.2
  have hA2 := List.pairwise_cons.1 h2.2.2
  have k1 : ∀ x ∈ T, v.ownBlock = none ∨ ∀ k, x.1.ownBlock = some k → v.ownBlock ≠ some k := fun x hx => .inr fun k hk e => hA.1 x.1 (List.mem_map.2 ⟨x, hx, rfl⟩) k e hk
  have lt0 : ∀ k, v.ownBlock = some k → k < w0.heap.size := fun k hk => (h.1.lt k hk).2
  refine ⟨by rw [List.length_append, List.map_append]; exact ho, fun x hx => ?_, ?_⟩
  · rcases List.mem_append.1 hx with hx | hx
    · refine (h'.2.1 x hx).kept hg ?_
      cases hk : x.1.ownBlock with
      | none => exact .inl rfl
      | some k => exact .inr fun e => hA.1 x.1 (List.mem_map.2 ⟨x, hx, rfl⟩) k e.symm hk
    · refine owns_mono ((h2.2.1 x hx).kept hg ?_) hB
      cases hk : x.1.ownBlock with
      | none => exact .inl rfl
      | some k =>
        refine .inr fun e => ?_
        have := lt0 k e.symm
        have := ((h2.2.1 x hx).lt k hk).1
        omega
  · rw [List.map_append]
    refine List.pairwise_cons.2 ⟨fun z hz => ?_, List.pairwise_append.2 ⟨hA.2, hA2.2, fun a ha b hb => ?_⟩⟩
    · rcases List.mem_append.1 hz with hz | hz
      · intro k e1 e2
        rcases hat k e1 with h5 | h5
        · exact hA.1 z hz k h5 e2
        · obtain ⟨x, hx, rfl⟩ := List.mem_map.1 hz
          have := ((h'.2.1 x hx).lt k e2).2
          omega
      · intro k e1 e2
        obtain ⟨x, hx, rfl⟩ := List.mem_map.1 hz
        have h6 := (h2.2.1 x hx).lt k e2
        rcases hat k e1 with h5 | h5
        · have := lt0 k h5; omega
        · omega
    · intro k e1 e2
      obtain ⟨x, hx, rfl⟩ := List.mem_map.1 ha
      obtain ⟨y, hy, rfl⟩ := List.mem_map.1 hb
      have := ((h.2.1 x hx).lt k e1).2
      have := ((h2.2.1 y hy).lt k e2).1
      omega
def ListsL (w : World) (L : List (List Int)) (e : Ending) (w' : World) : Prop :=
  ∃ v T, e = .returned v ∧ T.map Prod.snd = L ∧ LL w' w.heap.size v T ∧ Below w.heap.size w w'
end Go.Proofs.Ytmhkkdnopcdibaa
set_option linter.unusedVariables false
namespace Go.Proofs.Ytmhkkdnopcdibaa
open Go.RowKit

def tIntSS : Ty := tSl 31 tIntS
theorem opens_IntSS : Opens Try.prog 24 tIntSS := opens_sl Try.underlying24 (by kernel_rfl) opens_IntS
set_option maxRecDepth 100000 in
set_option maxHeartbeats 2000000 in
theorem y_eq_IntSS (v v' : Value) (d : List tIntS.D) (w : World) (h : RdA tIntSS w [v] d) (h' : RdA tIntSS w [v'] d) : Calls Try.prog 64 #[v, v'] w fun e w' => e = .returned (.bool true) ∧ Below w.heap.size w w' := by
  obtain ⟨a, cap, rfl, hn⟩ := rd_row_form h
  obtain ⟨a', cap', rfl, _⟩ := rd_row_form h'
  have HV := Lib.hid h
  have HV' := Lib.hid h'
  clear h h'
  obtain ⟨n, hd⟩ : ∃ n, d.length = n := ⟨_, rfl⟩
  have HD := Lib.hid hd
  rw [hd] at hn HV HV'
  rw [hd]
  clear hd
  go_enter Try.func64, Try.ntmps64
  go_wp2
  go_loopw [5] (fun i wr => ∃ j : Nat, j ≤ n ∧ i = .int .i64 j ∧ Hid (Below w.heap.size w wr)) (fun i _ => n - (RowKit.intOf i).toNat)
  case atStart => exact ⟨0, Nat.zero_le _, rfl, Below.refl _ _⟩
  case round =>
    obtain ⟨j, hj, rfl, hb⟩ := hrel
    by_cases hlt : j < n
    · obtain ⟨y, hy⟩ : ∃ y, d[j]? = some y := ⟨_, List.getElem?_eq_getElem (by have := HD.out; omega)⟩
      obtain ⟨b, off, k, u, hv, hcap, hc, hu⟩ := rd_cell rfl (RdA.below HV.out hb.out) hy
      obtain ⟨b', off', k', u', hv', hcap', hc', hu'⟩ := rd_cell rfl (RdA.below HV'.out hb.out) hy
      simp only [Value.slice.injEq] at hv hv'
      obtain ⟨rfl, hv2, rfl⟩ := hv
      obtain ⟨rfl, hv2', rfl⟩ := hv'
      clear hv2 hv2'
      rw [HD.out] at hcap hcap'
      have hj0 : (0 : Int) ≤ (j : Int) := by omega
      have hj1 : (j : Int) < (n : Int) := by omega
      have HC := Lib.hid (And.intro hc (And.intro hu (And.intro hc' (And.intro hu' hb.out))))
      clear hc hu hc' hu' HV HV' hy hb
      obtain ⟨S, HSd⟩ : ∃ S : World → Prop, S = fun w' => CellsAt w' b (off + j) [u] ∧ RdA tIntS w' [u] y ∧ CellsAt w' b' (off' + j) [u'] ∧ RdA tIntS w' [u'] y ∧ Below w.heap.size w w' := ⟨_, rfl⟩
      have KS : Hid (∀ wa wb, S wa → Below wa.heap.size wa wb → S wb) := by subst HSd; exact fun wa wb h b => ⟨h.1.below b, h.2.1.below b, h.2.2.1.below b, h.2.2.2.1.below b, h.2.2.2.2.trans (b.mono h.2.2.2.2.size)⟩
      have OS : Hid (∀ wa, S wa → CellsAt wa b (off + j) [u] ∧ RdA tIntS wa [u] y ∧ CellsAt wa b' (off' + j) [u'] ∧ RdA tIntS wa [u'] y ∧ Below w.heap.size w wa) := by subst HSd; exact fun wa h => h
      have IS : Hid (∀ wa, CellsAt wa b (off + j) [u] ∧ RdA tIntS wa [u] y ∧ CellsAt wa b' (off' + j) [u'] ∧ RdA tIntS wa [u'] y ∧ Below w.heap.size w wa → S wa) := by subst HSd; exact fun wa h => h
      clear HSd
      go_wp2_with fail
      refine wp_region_held_drew (S := S) (by kernel_rfl) ?_ (fun hHeld => ?_)
      · exact IS.out _ ((fun (h : CellsAt wr b (off + j) [u] ∧ RdA tIntS wr [u] y ∧ CellsAt wr b' (off' + j) [u'] ∧ RdA tIntS wr [u'] y ∧ Below w.heap.size w wr) (b : Below wr.heap.size wr _) => ⟨h.1.below b, h.2.1.below b, h.2.2.1.below b, h.2.2.2.1.below b, h.2.2.2.2.trans (b.mono h.2.2.2.2.size)⟩) HC.out (Below.refl _ _).drew)
      refine wpAnyH_take (i := 0) (v := ?_) rfl (by kernel_rfl) (by kernel_rfl) (by kernel_rfl) (fun _ _ _ h => h) (Or.inl ⟨by rfl, ?_⟩) hHeld ?_
      rotate_left
      · (intro wa hSw; go_simp; try with_reducible rfl)
      simp only [Act.put, List.getElem_toArray, List.getElem_cons_zero, List.setIfInBounds_toArray, List.set_cons_zero, List.set_cons_succ]
      refine wpAnyH_take (i := 1) (v := ?_) rfl (by kernel_rfl) (by kernel_rfl) (by kernel_rfl) (fun _ _ _ h => h) (Or.inl ⟨by rfl, ?_⟩) hHeld ?_
      rotate_left
      · (intro wa hSw; go_simp; try with_reducible rfl)
      simp only [Act.put, List.getElem_toArray, List.getElem_cons_zero, List.getElem_cons_succ, List.setIfInBounds_toArray, List.set_cons_zero, List.set_cons_succ]
      refine wpAnyH_take (i := 2) (v := ?_) rfl (by kernel_rfl) (by kernel_rfl) (by kernel_rfl) (fun _ _ _ h => h) (Or.inl ⟨by rfl, ?_⟩) hHeld ?_
      rotate_left
      · (intro wa hSw; go_simp; try with_reducible rfl)
      simp only [Act.put, List.getElem_toArray, List.getElem_cons_zero, List.getElem_cons_succ, List.setIfInBounds_toArray, List.set_cons_zero, List.set_cons_succ]
      refine wpAnyH_take (i := 3) (v := ?_) rfl (by kernel_rfl) (by kernel_rfl) (by kernel_rfl) (fun _ _ _ h => h) (Or.inl ⟨by rfl, ?_⟩) hHeld ?_
      rotate_left
      · (intro wa hSw; have K := OS.out _ hSw; have c0 : wa.cell? ⟨b, off + j, none⟩ = some u := K.1.2 0 _ rfl; have c1 : wa.cell? ⟨b', off' + j, none⟩ = some u' := K.2.2.1.2 0 _ rfl; go_simp; try with_reducible rfl)
      simp only [Act.put, List.getElem_toArray, List.getElem_cons_zero, List.getElem_cons_succ, List.setIfInBounds_toArray, List.set_cons_zero, List.set_cons_succ]
      refine wpAnyH_take (i := 4) (v := ?_) rfl (by kernel_rfl) (by kernel_rfl) (by kernel_rfl) (fun _ _ _ h => h) (Or.inl ⟨by rfl, ?_⟩) hHeld ?_
      rotate_left
      · (intro wa hSw; go_simp; try with_reducible rfl)
      simp only [Act.put, List.getElem_toArray, List.getElem_cons_zero, List.getElem_cons_succ, List.setIfInBounds_toArray, List.set_cons_zero, List.set_cons_succ]
      refine wpAnyH_take (i := 5) (v := ?_) rfl (by kernel_rfl) (by kernel_rfl) (by kernel_rfl) (fun _ _ _ h => h) (Or.inl ⟨by rfl, ?_⟩) hHeld ?_
      rotate_left
      · (intro wa hSw; go_simp; try with_reducible rfl)
      simp only [Act.put, List.getElem_toArray, List.getElem_cons_zero, List.getElem_cons_succ, List.setIfInBounds_toArray, List.set_cons_zero, List.set_cons_succ]
      refine wpAnyH_take (i := 6) (v := ?_) rfl (by kernel_rfl) (by kernel_rfl) (by kernel_rfl) (fun _ _ _ h => h) (Or.inl ⟨by rfl, ?_⟩) hHeld ?_
      rotate_left
      · (intro wa hSw; go_simp; try with_reducible rfl)
      simp only [Act.put, List.getElem_toArray, List.getElem_cons_zero, List.getElem_cons_succ, List.setIfInBounds_toArray, List.set_cons_zero, List.set_cons_succ]
      refine wpAnyH_take (i := 7) (v := ?_) rfl (by kernel_rfl) (by kernel_rfl) (by kernel_rfl) (fun _ _ _ h => h) (Or.inl ⟨by rfl, ?_⟩) hHeld ?_
      rotate_left
      · (intro wa hSw; have K := OS.out _ hSw; have c0 : wa.cell? ⟨b, off + j, none⟩ = some u := K.1.2 0 _ rfl; have c1 : wa.cell? ⟨b', off' + j, none⟩ = some u' := K.2.2.1.2 0 _ rfl; go_simp; try with_reducible rfl)
      simp only [Act.put, List.getElem_toArray, List.getElem_cons_zero, List.getElem_cons_succ, List.setIfInBounds_toArray, List.set_cons_zero, List.set_cons_succ]
      refine wpAnyH_ready (rs := [8]) (by kernel_rfl) (by simp) ?_
      refine AllReadyH.cons (o := _) rfl (fun K hK => ?_) AllReadyH.nil
      go_simp
      have KK := OS.out _ hHeld
      refine (y_eq_IntS u u' y _ KK.2.1 KK.2.2.2.1).mono ?_
      rintro e w101 ⟨rfl, b101⟩
      clear KK
      (try go_wp2_with fail)
      refine hK.out _ _ ?_ (fun hHeld101 => ?_)
      · exact KS.out _ _ hHeld b101
      clear hK K
      refine wpAnyH_take (i := 9) (v := ?_) rfl (by kernel_rfl) (by kernel_rfl) (by kernel_rfl) (fun _ _ _ h => h) (Or.inl ⟨by rfl, ?_⟩) hHeld101 ?_
      rotate_left
      · (intro wa hSw; go_simp; try with_reducible rfl)
      simp only [Act.put, List.getElem_toArray, List.getElem_cons_zero, List.getElem_cons_succ, List.setIfInBounds_toArray, List.set_cons_zero, List.set_cons_succ]
      refine wpAnyH_done (by kernel_rfl) ?_ _
      have KE := Lib.hid (OS.out _ hHeld101)
      clear KS OS IS hHeld hHeld101
      have HE := Lib.hid KE.out.2.2.2.2
      clear KE HC
      go_wp2
      go_roundw
      case rel => exact ⟨j + 1, by omega, by go_num, HE.out⟩
      case measure => simp [RowKit.intOf]; omega
    · obtain rfl : j = n := by omega
      go_wp2
      go_ret
      exact ⟨rfl, hb.out⟩
set_option maxRecDepth 100000 in
set_option maxHeartbeats 2000000 in
theorem yb_mk_IntSS (v : Value) (d : List tIntS.D) (k : Int) (lo : Nat) (bs : List Nat) (w : World) (h : tIntSS.Ow w lo [v] d bs) (hnd : bs.Nodup) (h0 : 0 < k) (hk : k + tIntSS.mks d ≤ 1000000000000) : Calls Try.prog 70 #[v, .int .i64 k] w (MarkC tIntSS [v] (tIntSS.mkd k d) (tIntSS.mks d) k bs w) := by
  obtain ⟨f, us, R⟩ := RowsOw.of rfl h hnd
  obtain ⟨a, cap, rfl, hn⟩ := rd_row_form (tIntSS.ow_rd h)
  have HR := Lib.hid R
  have HM : Hid (tIntSS.mks d = (d.map tIntS.mks).sum) := rfl
  have HK := Lib.hid hk
  clear R h hnd hk
  obtain ⟨n, hd⟩ : ∃ n, d.length = n := ⟨_, rfl⟩
  have HD := Lib.hid hd
  rw [hd] at hn HR
  rw [hd]
  clear hd
  go_enter Try.func70, Try.ntmps70
  go_wp2
  go_loopw [1, 5] (fun kv i wr => ∃ j : Nat, j ≤ n ∧ i = .int .i64 j ∧ Hid (kv = .int .i64 (k + (((d.take j).map tIntS.mks).sum : Nat))) ∧ Hid (KeepB ((List.range j).flatMap f) w wr) ∧ Hid (∀ i y, i < j → d[i]? = some y → tIntS.Rd wr (fun q => q ∈ f i) [us i] (tIntS.mkd (k + (((d.take i).map tIntS.mks).sum : Nat)) y))) (fun _ i _ => n - (RowKit.intOf i).toNat)
  case atStart => exact ⟨0, Nat.zero_le _, rfl, (by show _ = _; simp), KeepB.refl _ _, fun i y hi => absurd hi (Nat.not_lt_zero _)⟩
  case round =>
    obtain ⟨j, hj, rfl, hkv, hkb, hrd⟩ := hrel
    by_cases hlt : j < n
    · obtain ⟨y, hy⟩ : ∃ y, d[j]? = some y := ⟨_, List.getElem?_eq_getElem (by have := HD.out; omega)⟩
      have hjl : j < d.length := (List.getElem?_eq_some_iff.1 hy).1
      have hin : ∀ q, q ∈ (List.range j).flatMap f → ∃ i, i < j ∧ q ∈ f i := fun q hq => by obtain ⟨i, hi, hqi⟩ := List.mem_flatMap.1 hq; exact ⟨i, List.mem_range.1 hi, hqi⟩
      obtain ⟨b, off, c, hv, hcap, hc⟩ := HR.out.cell hkb.out (fun q hq hqf => by obtain ⟨i, hi, hqi⟩ := hin q hqf; exact (HR.out.outer q hq).2 i (by omega) hqi) hjl
      have how := KeepB.ow (HR.out.own j y hy) hkb.out (fun q hq hqf => by obtain ⟨i, hi, hqi⟩ := hin q hqf; exact HR.out.apart i j (by omega) hjl (by omega) q hqi hq)
      have HW := Lib.hid how
      simp only [Value.slice.injEq] at hv
      obtain ⟨rfl, hv2, rfl⟩ := hv
      clear hv2
      rw [HD.out] at hcap
      have hts := take_sum (f := tIntS.mks) hy
      have hle := take_sum_le (f := tIntS.mks) (L := d) (j + 1)
      obtain ⟨K, hK⟩ : ∃ K : Int, k + (((d.take j).map tIntS.mks).sum : Nat) = K := ⟨_, rfl⟩
      have hkk := HK.out
      rw [HM.out] at hkk
      have hK0 : 0 < K := by omega
      have hKk : K + (tIntS.mks y : Nat) ≤ 1000000000000 := by omega
      have HK2 : Hid (K + (tIntS.mks y : Nat) = k + (((d.take (j + 1)).map tIntS.mks).sum : Nat)) := (by show _ = _; omega)
      have HKj : Hid (k + (((d.take j).map tIntS.mks).sum : Nat) = K) := hK
      have hkv2 := hkv.out
      rw [hK] at hkv2
      subst hkv2
      clear hts hle hkk hK hin how hkv
      go_wp2_with fail
      refine (yb_mk_IntS (us j) y K lo (f j) wr HW.out (HR.out.nodup j hjl) hK0 hKk).mono ?_
      rintro e w1 ⟨rfl, hr1, hk1⟩
      have HR1 := Lib.hid hr1
      have HKB := Lib.hid (hkb.out.trans hk1)
      have HK1 := Lib.hid hk1
      clear hr1 hk1 hc
      go_wp2
      go_roundw
      case rel =>
        refine ⟨j + 1, by omega, by go_num, (by show _ = _; rw [HK2.out]), (by show KeepB _ _ _; rw [range_flat_succ]; exact HKB.out), fun i z hi hz => ?_⟩
        by_cases hij : i = j
        · subst hij
          rw [hy] at hz
          cases hz
          rw [HKj.out]
          exact HR1.out
        · exact KeepB.rd (hrd.out i z (by omega) hz) HK1.out (HR.out.apart i j (by omega) hjl hij)
      case measure => simp [RowKit.intOf]; omega
    · obtain rfl : j = n := by omega
      have hdone := RowsOw.done rfl (HR.out) (k := k) (w' := wr) (by rw [HD.out]; exact hkb.out) (fun i y hy => hrd.out i y (by have := (List.getElem?_eq_some_iff.1 hy).1; have := HD.out; omega) hy)
      have HF := Lib.hid hdone
      have hkv2 := hkv.out
      rw [List.take_of_length_le (by have := HD.out; omega)] at hkv2
      subst hkv2
      clear hdone hkv
      go_wp2
      go_ret
      exact ⟨(congrArg (fun z : Nat => Ending.returned (.int .i64 (k + (z : Int)))) HM.out).symm, HF.out.1, HF.out.2⟩
theorem y_mk_IntSS (v : Value) (d : List tIntS.D) (k : Int) (lo hi : Nat) (w : World) (h : OwN tIntSS w lo hi [v] d) (h0 : 0 < k) (hk : k + tIntSS.mks d ≤ 1000000000000) : Calls Try.prog 70 #[v, .int .i64 k] w (MarkT tIntSS [v] d k lo hi w) :=
  mark_windowC h fun bs ho hnd => yb_mk_IntSS v d k lo bs w ho hnd h0 hk
theorem LL.owN {w : World} {B : Nat} {v : Value} {T : List (Value × List Int)} (h : LL w B v T) : OwN tIntSS w B w.heap.size [v] (T.map Prod.snd) := by
  obtain ⟨h1, h2, h3⟩ := h
  have hl : (T.map Prod.snd).length = T.length := List.length_map ..
  have hfl : (List.range (T.map Prod.snd).length).flatMap (fun i => ((T[i]?).map fun x => x.1.ownBlock.toList).getD []) = (T.map Prod.fst).flatMap fun v => v.ownBlock.toList := by
    rw [hl, List.flatMap_def, List.flatMap_def, List.map_map]
    congr 1
    refine List.ext_getElem? fun i => ?_
    rw [List.getElem?_map, List.getElem?_map]
    by_cases hi : i < T.length
    · rw [List.getElem?_range hi, List.getElem?_eq_getElem hi]; simp [List.getElem?_eq_getElem hi]
    · rw [List.getElem?_eq_none (by simpa using hi), List.getElem?_eq_none (by omega)]; rfl
  have hnd := nodup_blocks _ h3
  have h1' : w.ownsRow B 31 1 v (T.map Prod.snd).length (T.map Prod.fst) := by rw [hl]; exact h1
  rw [List.flatMap_cons] at hnd
  have how : tIntSS.Ow w B [v] (T.map Prod.snd) (v.ownBlock.toList ++ (T.map Prod.fst).flatMap fun v => v.ownBlock.toList) := by
    refine ⟨v, T.map Prod.fst, fun i => ((T[i]?).map fun x => x.1.ownBlock.toList).getD [], rfl, h1', fun i y hy => ?_, congrArg (fun z => v.ownBlock.toList ++ z) hfl.symm⟩
    have hy' : Option.map (Prod.snd (α := Value) (β := List Int)) T[i]? = some y := (List.getElem?_map (f := Prod.snd (α := Value) (β := List Int)) (l := T) (i := i)).symm.trans hy
    obtain ⟨x, hx, rfl⟩ := Option.map_eq_some_iff.1 hy'
    have hi := (List.getElem?_eq_some_iff.1 hx).1
    have hx2 : T[i] = x := (List.getElem?_eq_some_iff.1 hx).2
    have hc : ((T.map Prod.fst).drop (i * tIntS.n)).take tIntS.n = [x.1] := by
      show ((T.map Prod.fst).drop (i * 1)).take 1 = [x.1]
      rw [Nat.mul_one, List.drop_eq_getElem_cons (by rw [List.length_map]; exact hi), List.getElem_map, hx2]; rfl
    rw [hc]
    have hfi : (fun i => ((T[i]?).map fun x => x.1.ownBlock.toList).getD []) i = x.1.ownBlock.toList := by simp [hx]
    rw [hfi]
    have ho := h2 x (List.mem_of_getElem? hx)
    have hown : OwN tIntS w B w.heap.size [x.1] x.2 := own_ints ho (fun q hq => (ho.lt q hq).2) (Nat.le_refl _)
    obtain ⟨bs, e1, _⟩ := hown
    have := flat_blocks flat_int e1
    subst this
    exact e1
  exact ⟨_, how, hnd, fun q hq => (tIntSS.ow_lt how q hq).2, Nat.le_refl _⟩
theorem ListsL.owN {w w' : World} {L : List (List Int)} {e : Ending} (h : ListsL w L e w') : MadeT tIntSS L w e w' := by
  obtain ⟨v, T, he, rfl, hl, hb⟩ := h
  exact ⟨v, he, hl.owN, hb⟩
end Go.Proofs.Ytmhkkdnopcdibaa
set_option linter.unusedVariables false
namespace Go.Proofs.Ytmhkkdnopcdibaa
open Go.RowKit

def RowsMk (e : Ty) (w : World) (O : Nat) (d : List e.D) (j : Nat) (ys : List Value) : Prop :=
  ∃ f : Nat → List Nat, (∀ i x, i < j → d[i]? = some x → e.Ow w (O + 1) [ys.getD i undef] x (f i)) ∧ (∀ i, i < j → (f i).Nodup) ∧ (∀ i k, i < j → k < j → i ≠ k → ∀ q, q ∈ f i → q ∉ f k) ∧ ∀ i, i < j → ∀ q, q ∈ f i → O < q ∧ q < w.heap.size
theorem RowsMk.nil {e : Ty} {w : World} {O : Nat} {d : List e.D} {ys : List Value} : RowsMk e w O d 0 ys :=
  ⟨fun _ => [], fun i _ h => absurd h (Nat.not_lt_zero _), fun i h => absurd h (Nat.not_lt_zero _), fun i _ h => absurd h (Nat.not_lt_zero _), fun i h => absurd h (Nat.not_lt_zero _)⟩
theorem RowsMk.next {e : Ty} {w u w' : World} {O : Nat} {d : List e.D} {j : Nat} {ys : List Value} {v : Value} {x : e.D} (h : RowsMk e w O d j ys) (hO : O < w.heap.size) (hb : Below w.heap.size w u) (ho : OwN e u w.heap.size u.heap.size [v] x)
    (hx : d[j]? = some x) (hj : j < ys.length) (hs : u.heap.size ≤ w'.heap.size) (hk : ∀ q, q ≠ O → q < u.heap.size → w'.heap[q]? = u.heap[q]?) : RowsMk e w' O d (j + 1) (ys.set j v) := by
  obtain ⟨f, h1, h2, h3, h4⟩ := h
  obtain ⟨bs, b1, b2, b3, _⟩ := ho
  have b4 := e.ow_lt b1
  have hsz := hb.size
  obtain ⟨F, hF1, hF2⟩ : ∃ F : Nat → List Nat, F j = bs ∧ ∀ i, i ≠ j → F i = f i := ⟨fun i => if i = j then bs else f i, if_pos rfl, fun i h => if_neg h⟩
  refine ⟨F, fun i y hi hy => ?_, fun i hi => ?_, fun i k hi hkk hik q hq => ?_, fun i hi q hq => ?_⟩
  · by_cases e1 : i = j
    · subst e1
      rw [hx] at hy
      obtain rfl := Option.some.inj hy
      rw [hF1]
      have e2 : (ys.set i v).getD i undef = v := by simp [List.getD_eq_getElem?_getD, hj]
      rw [e2]
      exact e.ow_mono (e.ow_frame b1 (fun q hq => hk q (by have := (b4 q hq).1; omega) (b4 q hq).2) hs) (by omega)
    · rw [hF2 i e1]
      have e2 : (ys.set j v).getD i undef = ys.getD i undef := by simp [List.getD_eq_getElem?_getD, Ne.symm e1]
      rw [e2]
      refine e.ow_frame (h1 i y (by omega) hy) (fun q hq => ?_) (Nat.le_trans hsz hs)
      have h5 := h4 i (by omega) q hq
      exact (hk q (by omega) (by omega)).trans (hb.block q h5.2)
  · by_cases e1 : i = j
    · rw [e1, hF1]; exact b2
    · rw [hF2 i e1]; exact h2 i (by omega)
  · by_cases e1 : i = j
    · rw [e1, hF1] at hq
      rw [hF2 k (by omega)]
      intro hq2
      have := h4 k (by omega) q hq2
      have := (b4 q hq).1
      omega
    · rw [hF2 i e1] at hq
      have h5 := h4 i (by omega) q hq
      by_cases e2 : k = j
      · rw [e2, hF1]; intro hq2; have := (b4 q hq2).1; omega
      · rw [hF2 k e2]; exact h3 i k (by omega) (by omega) hik q hq
  · by_cases e1 : i = j
    · rw [e1, hF1] at hq
      have := b4 q hq
      exact ⟨by omega, by omega⟩
    · rw [hF2 i e1] at hq
      have := h4 i (by omega) q hq
      exact ⟨this.1, by omega⟩
theorem flat_nodup_of {f : Nat → List Nat} : ∀ n, (∀ i, i < n → (f i).Nodup) → (∀ i k, i < n → k < n → i ≠ k → ∀ q, q ∈ f i → q ∉ f k) → ((List.range n).flatMap f).Nodup
  | 0, _, _ => List.nodup_nil
  | n + 1, h1, h2 => by
    rw [range_flat_succ]
    refine List.nodup_append.2 ⟨flat_nodup_of n (fun i hi => h1 i (by omega)) (fun i k hi hk => h2 i k (by omega) (by omega)), h1 n (Nat.lt_succ_self _), fun a ha b hb e => ?_⟩
    subst e
    obtain ⟨i, hi, ha⟩ := List.mem_flatMap.1 ha
    have := List.mem_range.1 hi
    exact h2 i n (by omega) (Nat.lt_succ_self _) (by omega) a ha hb
theorem RowsMk.own {t : TypeId} {e : Ty} {w : World} {O n c : Nat} {d : List e.D} {ys : List Value} (he : e.n = 1) (hn : d.length = n) (h : RowsMk e w O d n ys) (ho : w.ownsRow O t 1 (.slice (some ⟨O, 0, none⟩) n c) n ys) (hO : O < w.heap.size) :
    OwN (tSl t e) w O w.heap.size [.slice (some ⟨O, 0, none⟩) n c] d := by
  subst hn
  obtain ⟨f, h1, h2, h3, h4⟩ := h
  have hl := ho.1
  rw [Nat.mul_one] at hl
  refine ⟨O :: (List.range d.length).flatMap f, ⟨_, ys, f, rfl, by rw [he]; exact ho, fun i x hx => ?_, rfl⟩, List.nodup_cons.2 ⟨fun hm => ?_, flat_nodup_of _ h2 h3⟩, fun q hq => ?_, Nat.le_refl _⟩
  · have hi := (List.getElem?_eq_some_iff.1 hx).1
    rw [he, Nat.mul_one, List.drop_eq_getElem_cons (by omega : i < ys.length)]
    have h5 := h1 i x hi hx
    rw [List.getD_eq_getElem?_getD, List.getElem?_eq_getElem (by omega : i < ys.length)] at h5
    exact e.ow_mono h5 (Nat.le_succ _)
  · obtain ⟨i, hi, hq⟩ := List.mem_flatMap.1 hm
    have := h4 i (List.mem_range.1 hi) O hq
    omega
  · rcases List.mem_cons.1 hq with rfl | hq
    · exact hO
    · obtain ⟨i, hi, hq⟩ := List.mem_flatMap.1 hq
      exact (h4 i (List.mem_range.1 hi) q hq).2
end Go.Proofs.Ytmhkkdnopcdibaa
set_option linter.unusedVariables false
namespace Go.Proofs.Ytmhkkdnopcdibaa
open Go.RowKit

set_option maxRecDepth 100000 in
set_option maxHeartbeats 2000000 in
theorem y_sz_IntSS (v : Value) (d : List tIntS.D) (left : Int) (w : World) (hl0 : 0 ≤ left) (hl : left ≤ 1048576) (h : RdA tIntSS w [v] d) : Calls Try.prog 56 #[v, .int .i64 left] w (SzT tIntSS d left w) := by
  obtain ⟨a, cap, rfl, hn⟩ := rd_row_form h
  have HV := Lib.hid h
  clear h
  obtain ⟨n, hd⟩ : ∃ n, d.length = n := ⟨_, rfl⟩
  have HD := Lib.hid hd
  have HW : Hid ((tIntSS.wt d : Int) = n + ((d.map tIntS.wt).sum : Nat)) := by show _ = _; rw [← hd]; show ((d.length + (d.map tIntS.wt).sum : Nat) : Int) = _; omega
  rw [hd] at hn ⊢
  clear hd
  have s0 : IntKind.i64.wrap (left - (n : Int)) = left - n := IntWalk.i64_in _ (by omega)
  by_cases hb : left - (n : Int) < 0
  · have g0 : decide (left - (n : Int) < 0) = true := decide_eq_true hb
    go_enter Try.func56, Try.ntmps56
    go_wp2
    go_ret
    exact ⟨⟨-1, rfl, .inl (by omega)⟩, Below.refl _ _⟩
  have g0 : decide (left - (n : Int) < 0) = false := decide_eq_false hb
  go_enter Try.func56, Try.ntmps56
  go_wp2
  go_loopw [1, 5] (fun lv iv wr => ∃ (j : Nat) (l : Int), j ≤ n ∧ iv = .int .i64 j ∧ lv = .int .i64 l ∧ (0 ≤ l ∧ l ≤ 1048576) ∧ Hid ((n : Int) + (((d.take j).map tIntS.wt).sum : Nat) + l = left) ∧ Hid (Below w.heap.size w wr)) (fun _ iv _ => n - (RowKit.intOf iv).toNat)
  case atStart => exact ⟨0, left - n, Nat.zero_le _, rfl, rfl, ⟨by omega, by omega⟩, (by show _ = _; simp; omega), Below.refl _ _⟩
  case round =>
    obtain ⟨j, l, hj, rfl, rfl, hl2, HS, HB⟩ := hrel
    by_cases hlt : j < n
    · obtain ⟨y, hy⟩ : ∃ y, d[j]? = some y := ⟨_, List.getElem?_eq_getElem (by have := HD.out; omega)⟩
      obtain ⟨b, off, k, u, hv, hcap, hc, hu⟩ := rd_cell rfl (RdA.below HV.out HB.out) hy
      simp only [Value.slice.injEq] at hv
      obtain ⟨rfl, hv2, rfl⟩ := hv
      clear hv2
      rw [HD.out] at hcap
      have hj1 : (j : Int) < (n : Int) := by omega
      have c0 : wr.cell? ⟨b, off + j, none⟩ = some u := hc.2 0 _ rfl
      have HU := Lib.hid hu
      have hts := take_sum (f := tIntS.wt) hy
      have HTS := Lib.hid hts
      clear hc hu hts hy
      go_wp2_with fail
      refine (y_sz_IntS u y l _ hl2.1 hl2.2 HU.out).mono ?_
      rintro e w2 ⟨⟨r, rfl, hr⟩, b2⟩
      have HB2 := Lib.hid (HB.out.trans (b2.mono HB.out.size))
      have HSS : Hid (r < 0 ∨ (0 ≤ r ∧ r ≤ l ∧ (n : Int) + (((d.take (j + 1)).map tIntS.wt).sum : Nat) + r = left)) := by
        rcases hr with hr | ⟨h1, h2⟩
        · exact .inl hr
        · exact .inr ⟨h1, by omega, by have h3 := HS.out; rw [HTS.out]; omega⟩
      clear b2 hr HB HS HTS HU
      by_cases hr0 : r < 0
      · have g1 : decide (r < 0) = true := decide_eq_true hr0
        go_wp2
        go_ret
        exact ⟨⟨-1, rfl, .inl (by omega)⟩, HB2.out⟩
      have g1 : decide (r < 0) = false := decide_eq_false hr0
      have HS3 := HSS.out.resolve_left hr0
      have HS4 : Hid ((n : Int) + (((d.take (j + 1)).map tIntS.wt).sum : Nat) + r = left) := HS3.2.2
      have hr1 : 0 ≤ r ∧ r ≤ 1048576 := ⟨HS3.1, by have := HS3.2.1; omega⟩
      clear HSS HS3
      go_wp2
      go_roundw
      case rel => exact ⟨j + 1, r, by omega, by go_num, rfl, hr1, HS4, HB2⟩
      case measure => simp [RowKit.intOf]; omega
    · obtain rfl : j = n := by omega
      have HE : Hid ((tIntSS.wt d : Int) + l = left) := by
        show _ = _
        have h1 := HS.out
        rw [List.take_of_length_le (by have := HD.out; omega)] at h1
        rw [HW.out]; exact h1
      go_wp2
      go_ret
      exact ⟨⟨l, rfl, .inr ⟨hl2.1, HE.out⟩⟩, HB.out⟩
theorem y_form_IntS {w : World} {lo hi : Nat} {v : Value} {d : tIntS.D} (h : OwN tIntS w lo hi [v] d) : ∃ a c, v = .slice a (List.length d) c := by
  have h1 : RdA tIntS w [v] d := Ty.rd_mono _ (OwN.rd h) fun q hq => Nat.lt_of_lt_of_le hq.2 (OwN.hi_le h)
  obtain ⟨a, c, e, _⟩ := rd_row_form h1
  exact ⟨a, c, e⟩
theorem Try.infoIntSS : (Try.prog.info? 31).map (fun i => (i.zero, i.size, i.bytes)) = some (some (.slice none 0 0), 1, 24) := by kernel_rfl
set_option maxRecDepth 100000 in
set_option maxHeartbeats 2000000 in
theorem y_to_IntSS (v : Value) (d : List tIntS.D) (w : World) (h : RdA tIntSS w [v] d) (hw : tIntSS.wt d ≤ 1048576) : Calls Try.prog 62 #[v] w (MadeT tIntSS d w) := by
  obtain ⟨i0, hi, hz0, hz1, hz2⟩ := info_parts Try.infoIntSS
  obtain ⟨a, cap, rfl, hn⟩ := rd_row_form h
  have HV := Lib.hid h
  clear h
  obtain ⟨n, hd⟩ : ∃ n, d.length = n := ⟨_, rfl⟩
  have HD := Lib.hid hd
  have hwe : tIntSS.wt d = d.length + (d.map tIntS.wt).sum := rfl
  have hn6 : n ≤ 1048576 := by omega
  have HE : Hid (∀ j y, d[j]? = some y → tIntS.wt y ≤ 1048576) := fun j y hy => by
    have h1 := take_sum (f := tIntS.wt) hy
    have h2 := take_sum_le (f := tIntS.wt) (L := d) (j + 1)
    omega
  rw [hd] at hn ⊢
  clear hd hwe hw
  go_enter Try.func62, Try.ntmps62
  go_wp2_with (at_make; refine wpList_make_full _ rfl _ _ 24 rfl w.heap.size 31 i0 (.slice none 0 0) 1 Try.underlying24 hi hz0 hz1 .i64 .i64 n n n rfl rfl rfl rfl (by rw [hz2]; omega) (by unfold maxLen; omega) (Nat.le_refl _) ?_; intro w1 hown hg1)
  have hb1 : Below w.heap.size w w1 := (Below.refl _ _).grown hg1 (Nat.le_refl _) (fun k hk => by cases hk)
  have hlt1 : w.heap.size < w1.heap.size := (hown.lt w.heap.size rfl).2
  have HB1 := Lib.hid hb1
  have HO1 := Lib.hid hown
  clear hg1 hb1 hown
  go_loopw [4] (fun iv wr => ∃ (j : Nat) (ys : List Value), j ≤ n ∧ iv = .int .i64 j ∧ w.heap.size < wr.heap.size ∧ Hid (wr.ownsRow w.heap.size 31 1 (.slice (some ⟨w.heap.size, 0, none⟩) n n) n ys) ∧ Hid (RowsMk tIntS wr w.heap.size d j ys) ∧ Hid (Below w.heap.size w wr)) (fun iv _ => n - (RowKit.intOf iv).toNat)
  case atStart => exact ⟨0, _, Nat.zero_le _, rfl, hlt1, HO1, RowsMk.nil, HB1⟩
  case round =>
    clear HO1 HB1 hlt1
    obtain ⟨j, ys, hj, rfl, hO, HO, HR, HB⟩ := hrel
    by_cases hlt : j < n
    · obtain ⟨y, hy⟩ : ∃ y, d[j]? = some y := ⟨_, List.getElem?_eq_getElem (by have := HD.out; omega)⟩
      obtain ⟨b, off, k, u, hv, hcap, hc, hu⟩ := rd_cell rfl (RdA.below HV.out HB.out) hy
      simp only [Value.slice.injEq] at hv
      obtain ⟨rfl, hv2, rfl⟩ := hv
      clear hv2
      rw [HD.out] at hcap
      have hj1 : (j : Int) < (n : Int) := by omega
      have c0 : wr.cell? ⟨b, off + j, none⟩ = some u := hc.2 0 _ rfl
      have HU := Lib.hid hu
      have HY := Lib.hid hy
      have HYW := Lib.hid (HE.out j y hy)
      have HYL : Hid (j < ys.length) := by have := HO.out.1; show _ < _; omega
      clear hc hu hy
      go_wp2_with (go_at_call 30; refine (y_to_IntS u y _ HU.out HYW.out).mono ?_; rintro e w2 ⟨v2, rfl, ho2, b2⟩; obtain ⟨xa, xc, hvf⟩ := y_form_IntS ho2; subst hvf; have hown2 := owns_below HO.out b2 (Nat.le_refl _); obtain ⟨u0, e0⟩ := owns_cellR hown2 j (by omega); have f0 := hown2.frozenAt j)
      go_roundw
      case rel =>
        have hs2 := b2.size
        refine ⟨j + 1, _, by omega, by go_num, (by have h9 : w2.heap.size ≤ (w2.setCell ⟨w.heap.size, j, none⟩ (.slice xa (List.length y) xc)).heap.size := by simp [World.setCell]
                                                   omega), (hown2.stored j _).1, ?_, (HB.out.trans (b2.mono HB.out.size)).setCell (Nat.le_refl _) _⟩
        exact HR.out.next hO b2 ho2 HY.out HYL.out (Nat.le_of_eq (by simp [World.setCell])) fun q hq _ => Below.heap_setCell _ _ _ _ hq
      case measure => simp [RowKit.intOf]; omega
    · obtain rfl : j = n := by omega
      go_wp2
      go_ret
      exact ⟨_, rfl, RowsMk.own rfl HD.out HR.out HO.out hO, HB.out⟩
end Go.Proofs.Ytmhkkdnopcdibaa
set_option linter.unusedVariables false
namespace Go.Proofs.Ytmhkkdnopcdibaa
open Go.RowKit

def tPots : Ty := tTwo tIntSS (tTwo tInt tInt)
theorem opens_Pots : Opens Try.prog 41 tPots := opens_struct Try.underlying41 (by kernel_rfl) ⟨rfl, _, _, rfl, opens_IntSS, ⟨rfl, _, _, rfl, (opens_int Try.underlying3 (by kernel_rfl)), ⟨rfl, (opens_int Try.underlying3 (by kernel_rfl))⟩⟩⟩
set_option maxRecDepth 100000 in
set_option maxHeartbeats 2000000 in
theorem y_sz_Pots (vx_Pots : Value) (x_Groups : Int) (x_Most : Int) (d : tPots.D) (left : Int) (w : World) (hl0 : 0 ≤ left) (hl : left ≤ 1048576) (h : RdA tPots w [vx_Pots, .int .i64 x_Groups, .int .i64 x_Most] d) : Calls Try.prog 23 #[.agg #[vx_Pots, .int .i64 x_Groups, .int .i64 x_Most], .int .i64 left] w (SzT tPots d left w) := by
  have hwt : tPots.wt d = (tIntSS.wt d.1 + (tInt.wt d.2.1 + tInt.wt d.2.2)) := rfl
  have hz1 : tInt.wt d.2.1 = 0 := rfl
  have hz2 : tInt.wt d.2.2 = 0 := rfl
  have P0 : RdA tIntSS w [vx_Pots] d.1 := (rd_split h).1
  have Pt0 := (rd_split h).2
  have P1 : RdA tInt w [.int .i64 x_Groups] d.2.1 := (rd_split Pt0).1
  have Pt1 := (rd_split Pt0).2
  have P2 : RdA tInt w [.int .i64 x_Most] d.2.2 := Pt1
  clear Pt0 Pt1
  have HP0 := Lib.hid P0
  obtain ⟨W0, hW0⟩ : ∃ z, tIntSS.wt d.1 = z := ⟨_, rfl⟩
  unfold SzT
  rw [hwt]
  rw [hz1, hz2]
  clear hwt h P0 P1 P2 hz1 hz2
  have HB0 : Hid (Below w.heap.size w (w.alloc (.cells #[vx_Pots, .int .i64 x_Groups, .int .i64 x_Most] 41))) := (Below.refl _ _).alloc (Nat.le_refl _) _
  have BX0 : Hid (BoxN (w.alloc (.cells #[vx_Pots, .int .i64 x_Groups, .int .i64 x_Most] 41)) w.heap.size [vx_Pots, .int .i64 x_Groups, .int .i64 x_Most]) := BoxN.made (Below.refl _ _) rfl
  have c0 := BX0.out.2 0 _ rfl
  have c1 := BX0.out.2 1 _ rfl
  have c2 := BX0.out.2 2 _ rfl
  go_enter Try.func23, Try.ntmps23
  go_wp2_with fail
  refine (y_sz_IntSS vx_Pots d.1 left _ (by omega) (by omega) (RdA.below HP0.out HB0.out)).mono ?_
  rintro e w1 ⟨⟨r1, rfl, hr1⟩, b1⟩
  rw [hW0] at hr1
  have HB1 := Lib.hid (HB0.out.trans (b1.mono HB0.out.size))
  have BX1 := Lib.hid (BX0.out.below b1)
  clear c0 c1 c2 BX0 b1
  have c0 := BX1.out.2 0 _ rfl
  have c1 := BX1.out.2 1 _ rfl
  have c2 := BX1.out.2 2 _ rfl
  by_cases hn1 : r1 < 0
  · have g2 : decide (r1 < 0) = true := decide_eq_true hn1
    have HE := Lib.hid HB1.out
    clear hr1
    go_wp2
    go_ret
    exact ⟨⟨-1, rfl, .inl (by omega)⟩, HE.out⟩
  have g1 : decide (r1 < 0) = false := decide_eq_false hn1
  replace hn1 : 0 ≤ r1 ∧ (W0 : Int) + r1 = left := by omega
  clear hr1
  have HE := Lib.hid HB1.out
  go_wp2
  go_ret
  refine ⟨⟨_, rfl, .inr ⟨by omega, ?_⟩⟩, HE.out⟩
  rw [hW0]
  omega
set_option maxRecDepth 100000 in
set_option maxHeartbeats 2000000 in
theorem y_eq_Pots (vx_Pots : Value) (x_Groups : Int) (x_Most : Int) (vx_Pots' : Value) (d : tPots.D) (w : World) (h : RdA tPots w [vx_Pots, .int .i64 x_Groups, .int .i64 x_Most] d) (h' : RdA tPots w [vx_Pots', .int .i64 x_Groups, .int .i64 x_Most] d) : Calls Try.prog 28 #[.agg #[vx_Pots, .int .i64 x_Groups, .int .i64 x_Most], .agg #[vx_Pots', .int .i64 x_Groups, .int .i64 x_Most]] w fun e w' => e = .returned (.bool true) ∧ Below w.heap.size w w' := by
  have P0 : RdA tIntSS w [vx_Pots] d.1 := (rd_split h).1
  have Pt0 := (rd_split h).2
  have P1 : RdA tInt w [.int .i64 x_Groups] d.2.1 := (rd_split Pt0).1
  have Pt1 := (rd_split Pt0).2
  have P2 : RdA tInt w [.int .i64 x_Most] d.2.2 := Pt1
  clear Pt0 Pt1
  have Q0 : RdA tIntSS w [vx_Pots'] d.1 := (rd_split h').1
  have Qt0 := (rd_split h').2
  have Q1 : RdA tInt w [.int .i64 x_Groups] d.2.1 := (rd_split Qt0).1
  have Qt1 := (rd_split Qt0).2
  have Q2 : RdA tInt w [.int .i64 x_Most] d.2.2 := Qt1
  clear Qt0 Qt1
  have HP0 := Lib.hid P0
  have HQ0 := Lib.hid Q0
  have HB0 : Hid (Below w.heap.size w ((w.alloc (.cells #[vx_Pots, .int .i64 x_Groups, .int .i64 x_Most] 26)).alloc (.cells #[vx_Pots', .int .i64 x_Groups, .int .i64 x_Most] 26))) := ((Below.refl _ _).alloc (Nat.le_refl _) _).alloc (by simp) _
  have BX0 : Hid (BoxN ((w.alloc (.cells #[vx_Pots, .int .i64 x_Groups, .int .i64 x_Most] 26)).alloc (.cells #[vx_Pots', .int .i64 x_Groups, .int .i64 x_Most] 26)) w.heap.size [vx_Pots, .int .i64 x_Groups, .int .i64 x_Most]) := BoxN.below (BoxN.made (Below.refl _ _) rfl) ((Below.refl _ _).alloc (Nat.le_refl _) _)
  have BY0 : Hid (BoxN ((w.alloc (.cells #[vx_Pots, .int .i64 x_Groups, .int .i64 x_Most] 26)).alloc (.cells #[vx_Pots', .int .i64 x_Groups, .int .i64 x_Most] 26)) (w.heap.size + 1) [vx_Pots', .int .i64 x_Groups, .int .i64 x_Most]) := BoxN.made (Below.refl _ _) (by simp)
  clear h h' P0 Q0 P1 Q1 P2 Q2
  have c0 := BX0.out.2 0 _ rfl
  have c1 := BX0.out.2 1 _ rfl
  have c2 := BX0.out.2 2 _ rfl
  have e0 := BY0.out.2 0 _ rfl
  have e1 := BY0.out.2 1 _ rfl
  have e2 := BY0.out.2 2 _ rfl
  have bl := BX0.out.1
  have bm := BY0.out.1
  go_enter Try.func28, Try.ntmps28
  go_wp2_with fail
  refine (y_eq_IntSS vx_Pots vx_Pots' d.1 _ (RdA.below HP0.out HB0.out) (RdA.below HQ0.out HB0.out)).mono ?_
  rintro e w1 ⟨rfl, b1⟩
  have HB1 := Lib.hid (HB0.out.trans (b1.mono HB0.out.size))
  have BX1 := Lib.hid (BX0.out.below b1)
  have BY1 := Lib.hid (BY0.out.below b1)
  clear c0 c1 c2 e0 e1 e2 bl bm BX0 BY0 b1
  have c0 := BX1.out.2 0 _ rfl
  have c1 := BX1.out.2 1 _ rfl
  have c2 := BX1.out.2 2 _ rfl
  have e0 := BY1.out.2 0 _ rfl
  have e1 := BY1.out.2 1 _ rfl
  have e2 := BY1.out.2 2 _ rfl
  have bl := BX1.out.1
  have bm := BY1.out.1
  have HE := Lib.hid HB1.out
  go_wp2
  go_ret
  exact ⟨rfl, HE.out⟩
set_option maxRecDepth 100000 in
set_option maxHeartbeats 4000000 in
theorem y_to_Pots (vx_Pots : Value) (x_Groups : Int) (x_Most : Int) (d : tPots.D) (w : World) (h : RdA tPots w [vx_Pots, .int .i64 x_Groups, .int .i64 x_Most] d) (hw : tPots.wt d ≤ 1048576) : Calls Try.prog 26 #[.agg #[vx_Pots, .int .i64 x_Groups, .int .i64 x_Most]] w (fun e w' => ∃ vx_Pots' : Value, e = .returned (.agg #[vx_Pots', .int .i64 x_Groups, .int .i64 x_Most]) ∧ OwN tPots w' w.heap.size w'.heap.size [vx_Pots', .int .i64 x_Groups, .int .i64 x_Most] d ∧ Below w.heap.size w w') := by
  have P0 : RdA tIntSS w [vx_Pots] d.1 := (rd_split h).1
  have Pt0 := (rd_split h).2
  have P1 : RdA tInt w [.int .i64 x_Groups] d.2.1 := (rd_split Pt0).1
  have Pt1 := (rd_split Pt0).2
  have P2 : RdA tInt w [.int .i64 x_Most] d.2.2 := Pt1
  clear Pt0 Pt1
  have HP0 := Lib.hid P0
  have HP1 := Lib.hid P1
  have HP2 := Lib.hid P2
  have hwt : tPots.wt d = (tIntSS.wt d.1 + (tInt.wt d.2.1 + tInt.wt d.2.2)) := rfl
  rw [hwt] at hw
  have hw0 : tIntSS.wt d.1 ≤ 1048576 := by omega
  have HW0 := Lib.hid hw0
  clear hw hwt hw0
  have HB0 : Hid (Below w.heap.size w (((w.alloc (.cells #[vx_Pots, .int .i64 x_Groups, .int .i64 x_Most] 41)).alloc (.cells #[.slice none 0 0, .int .i64 0, .int .i64 0] 26)).alloc (.cells #[.slice none 0 0, .int .i64 0, .int .i64 0] 26))) := (((Below.refl _ _).alloc (Nat.le_refl _) _).alloc (by simp) _).alloc (by simp <;> omega) _
  have BX0 : Hid (BoxN (((w.alloc (.cells #[vx_Pots, .int .i64 x_Groups, .int .i64 x_Most] 41)).alloc (.cells #[.slice none 0 0, .int .i64 0, .int .i64 0] 26)).alloc (.cells #[.slice none 0 0, .int .i64 0, .int .i64 0] 26)) w.heap.size [vx_Pots, .int .i64 x_Groups, .int .i64 x_Most]) := BoxN.below (BoxN.below (BoxN.made (Below.refl _ _) rfl) ((Below.refl _ _).alloc (Nat.le_refl _) _)) ((Below.refl _ _).alloc (Nat.le_refl _) _)
  have RS0 : Hid (ResAt (((w.alloc (.cells #[vx_Pots, .int .i64 x_Groups, .int .i64 x_Most] 41)).alloc (.cells #[.slice none 0 0, .int .i64 0, .int .i64 0] 26)).alloc (.cells #[.slice none 0 0, .int .i64 0, .int .i64 0] 26)) (w.heap.size + 1) 3) := ResAt.below (ResAt.made' (by simp) rfl) ((Below.refl _ _).alloc (Nat.le_refl _) _)
  have BO0 : Hid (BoxF (((w.alloc (.cells #[vx_Pots, .int .i64 x_Groups, .int .i64 x_Most] 41)).alloc (.cells #[.slice none 0 0, .int .i64 0, .int .i64 0] 26)).alloc (.cells #[.slice none 0 0, .int .i64 0, .int .i64 0] 26)) (w.heap.size + 2) [.slice none 0 0, .int .i64 0, .int .i64 0]) := BoxF.made (Below.refl _ _) (by simp)
  clear h P0 P1 P2
  have c0 := BX0.out.2 0 _ rfl
  have c1 := BX0.out.2 1 _ rfl
  have c2 := BX0.out.2 2 _ rfl
  have o0 := BO0.out.2 0 _ rfl
  have o1 := BO0.out.2 1 _ rfl
  have o2 := BO0.out.2 2 _ rfl
  have bl := BX0.out.1
  have bm := BO0.out.1
  have bn := RS0.out.lt
  obtain ⟨⟨z0, q0⟩, y0⟩ := RS0.out.at 0 (by omega)
  obtain ⟨⟨z1, q1⟩, y1⟩ := RS0.out.at 1 (by omega)
  obtain ⟨⟨z2, q2⟩, y2⟩ := RS0.out.at 2 (by omega)
  go_enter Try.func26, Try.ntmps26
  go_wp2_with fail
  clear c0 o0 q0 y0 c1 o1 q1 y1 c2 o2 q2 y2 bl bm bn
  refine (y_to_IntSS vx_Pots d.1 _ (RdA.below HP0.out HB0.out) HW0.out).mono ?_
  rintro e w1 ⟨u0_0, rfl, ho1, b1⟩
  have hs1 := b1.size
  have hS1 : w.heap.size + 3 ≤ w1.heap.size := by simp at hs1; omega
  have HBc1 := Lib.hid (HB0.out.trans (b1.mono HB0.out.size))
  have BXc1 := Lib.hid (BX0.out.below b1)
  have RSc1 := Lib.hid (RS0.out.below b1)
  have BOc1 := Lib.hid (BO0.out.below b1)
  have O0_c1 := Lib.hid (ho1.mono (lo' := w.heap.size + 3) (hi' := w1.heap.size) (by simp) (Nat.le_refl _) (Nat.le_refl _))
  clear HB0 BX0 RS0 BO0 hs1 b1 ho1
  obtain ⟨au0_0, nu0_0, ku0_0, hu0_0⟩ := rd_slice O0_c1.out.rd
  subst hu0_0
  have c0 := BXc1.out.2 0 _ rfl
  have c1 := BXc1.out.2 1 _ rfl
  have c2 := BXc1.out.2 2 _ rfl
  have o0 := BOc1.out.2 0 _ rfl
  have o1 := BOc1.out.2 1 _ rfl
  have o2 := BOc1.out.2 2 _ rfl
  have bl := BXc1.out.1
  have bm := BOc1.out.1
  have bn := RSc1.out.lt
  obtain ⟨⟨z0, q0⟩, y0⟩ := RSc1.out.at 0 (by omega)
  obtain ⟨⟨z1, q1⟩, y1⟩ := RSc1.out.at 1 (by omega)
  obtain ⟨⟨z2, q2⟩, y2⟩ := RSc1.out.at 2 (by omega)
  go_wp2
  (try simp only [Exit.inBlock, Exit.then])
  refine post_named fun w99 hw99 => ?_
  clear c0 o0 q0 y0 c1 o1 q1 y1 c2 o2 q2 y2 bl bm bn
  have HBs1 := Lib.hid (HBc1.out.setCell (p := ⟨w.heap.size + 2, 0, none⟩) (by simp) (.slice au0_0 nu0_0 ku0_0))
  have BXs1 := Lib.hid (BXc1.out.elsewhere (D := w.heap.size + 2) 0 (.slice au0_0 nu0_0 ku0_0) (by omega))
  have RSs1 := Lib.hid (RSc1.out.elsewhere (D := w.heap.size + 2) 0 (.slice au0_0 nu0_0 ku0_0) (by omega))
  have BOs1 := Lib.hid (BOc1.out.set 0 (.slice au0_0 nu0_0 ku0_0) (by simp))
  have O0_s1 := Lib.hid (O0_c1.out.touch ((Touch.refl (w.heap.size + 2) (w.heap.size + 3) _).setCell ⟨w.heap.size + 2, 0, none⟩ (.slice au0_0 nu0_0 ku0_0) (by simp) (by simp)) (.inr (by omega)))
  clear HBc1 BXc1 RSc1 BOc1 O0_c1
  have HBs2 := Lib.hid (HBs1.out.setCell (p := ⟨w.heap.size + 2, 1, none⟩) (by simp) (.int .i64 x_Groups))
  have BXs2 := Lib.hid (BXs1.out.elsewhere (D := w.heap.size + 2) 1 (.int .i64 x_Groups) (by omega))
  have RSs2 := Lib.hid (RSs1.out.elsewhere (D := w.heap.size + 2) 1 (.int .i64 x_Groups) (by omega))
  have BOs2 := Lib.hid (BOs1.out.set 1 (.int .i64 x_Groups) (by simp))
  have O0_s2 := Lib.hid (O0_s1.out.touch ((Touch.refl (w.heap.size + 2) (w.heap.size + 3) _).setCell ⟨w.heap.size + 2, 1, none⟩ (.int .i64 x_Groups) (by simp) (by simp)) (.inr (by omega)))
  clear HBs1 BXs1 RSs1 BOs1 O0_s1
  have HBs3 := Lib.hid (HBs2.out.setCell (p := ⟨w.heap.size + 2, 2, none⟩) (by simp) (.int .i64 x_Most))
  have BXs3 := Lib.hid (BXs2.out.elsewhere (D := w.heap.size + 2) 2 (.int .i64 x_Most) (by omega))
  have RSs3 := Lib.hid (RSs2.out.elsewhere (D := w.heap.size + 2) 2 (.int .i64 x_Most) (by omega))
  have BOs3 := Lib.hid (BOs2.out.set 2 (.int .i64 x_Most) (by simp))
  have O0_s3 := Lib.hid (O0_s2.out.touch ((Touch.refl (w.heap.size + 2) (w.heap.size + 3) _).setCell ⟨w.heap.size + 2, 2, none⟩ (.int .i64 x_Most) (by simp) (by simp)) (.inr (by omega)))
  clear HBs2 BXs2 RSs2 BOs2 O0_s2
  have HX9 := RSs3.out.put (vs := [.slice au0_0 nu0_0 ku0_0, .int .i64 x_Groups, .int .i64 x_Most]) rfl
  have HB9 := Below.putCs (C := w.heap.size) (B := w.heap.size + 1) (by omega) [.slice au0_0 nu0_0 ku0_0, .int .i64 x_Groups, .int .i64 x_Most] 0 _ _ HBs3.out
  have O0_9 := O0_s3.out.touch (Touch.putCs (lo := w.heap.size + 1) (hi := w.heap.size + 2) (B := w.heap.size + 1) (by omega) (by omega) [.slice au0_0 nu0_0 ku0_0, .int .i64 x_Groups, .int .i64 x_Most] 0 _ _ (Touch.refl _ _ _)) (.inr (by omega))
  have e99 : w99 = putCs _ (w.heap.size + 1) 0 [.slice au0_0 nu0_0 ku0_0, .int .i64 x_Groups, .int .i64 x_Most] := hw99.out
  rw [← e99] at HX9 HB9 O0_9
  clear hw99 e99
  have h9 : w1.heap.size ≤ w99.heap.size := O0_9.hi_le
  have HD : OwN tPots w99 (w.heap.size + 3) w1.heap.size [.slice au0_0 nu0_0 ku0_0, .int .i64 x_Groups, .int .i64 x_Most] (d.1, x_Groups, x_Most) := (OwN.two O0_9 (OwN.two (OwN.int w99 x_Groups (lo := w1.heap.size) (hi := w1.heap.size) (by omega)) (OwN.int w99 x_Most (lo := w1.heap.size) (hi := w1.heap.size) (by omega)) (by omega) (by omega)) (by omega) (by omega))
  have hd1 : d.2.1 = x_Groups := scalar_int HP1.out
  have hd2 : d.2.2 = x_Most := scalar_int HP2.out
  have hdd : ((d.1, x_Groups, x_Most) : tPots.D) = d := by
    rw [← hd1, ← hd2]
    rfl
  rw [hdd] at HD
  have HD9 := Lib.hid (HD.mono (lo' := w.heap.size) (hi' := w99.heap.size) (by omega) h9 (Nat.le_refl _))
  have HB99 := Lib.hid HB9
  have HX99 := Lib.hid HX9
  clear HB9 HX9 HD hdd hd1 hd2
  have x0 := (HX99.out.2 0 _ rfl).1
  have x1 := (HX99.out.2 1 _ rfl).1
  have x2 := (HX99.out.2 2 _ rfl).1
  have x_lt := HX99.out.1
  refine bodyPost_ret (v := .agg #[.slice au0_0 nu0_0 ku0_0, .int .i64 x_Groups, .int .i64 x_Most]) ?_ rfl ⟨.slice au0_0 nu0_0 ku0_0, rfl, HD9.out, HB99.out⟩
  rw [results_cell rfl]
  go_simp
def cnt_Pots (d : tPots.D) : Nat := (tIntSS.mks d.1 + (0 + 0))
def top_Pots (k : Int) (d : tPots.D) : tPots.D := (tIntSS.mkd (k) d.1, d.2.1, d.2.2)
set_option maxRecDepth 100000 in
set_option maxHeartbeats 2000000 in
theorem yb_mk_Pots (vx_Pots : Value) (x_Groups : Int) (x_Most : Int) (d : tPots.D) (k : Int) (lo : Nat) (bs : List Nat) (w : World) (h : tPots.Ow w lo [vx_Pots, .int .i64 x_Groups, .int .i64 x_Most] d bs) (hnd : bs.Nodup) (h0 : 0 < k) (hk : k + cnt_Pots d ≤ 1000000000000) : Calls Try.prog 35 #[.agg #[vx_Pots, .int .i64 x_Groups, .int .i64 x_Most], .int .i64 k] w (MarkC tPots [vx_Pots, .int .i64 x_Groups, .int .i64 x_Most] (top_Pots k d) (cnt_Pots d) k bs w) := by
  obtain ⟨b0, bt0, hbs0, p0, ht0⟩ := ow_split h
  have P0 : tIntSS.Ow w lo [vx_Pots] d.1 b0 := p0
  clear p0
  obtain ⟨b1, b2, hbs1, p1, ht1⟩ := ow_split ht0
  have P1 : tInt.Ow w lo [.int .i64 x_Groups] d.2.1 b1 := p1
  clear p1
  have P2 : tInt.Ow w lo [.int .i64 x_Most] d.2.2 b2 := ht1
  subst hbs1
  subst hbs0
  have HP0 := Lib.hid P0
  have HP1 := Lib.hid P1
  have HP2 := Lib.hid P2
  have HLT := Lib.hid (tPots.ow_lt h)
  have HMEM0 : Hid (∀ q, q ∈ b0 → q ∈ b0 ++ (b1 ++ (b2))) := fun q hq => by simp only [List.mem_append]; simp [hq]
  have ND0 : Hid (b0.Nodup) := by
    have h7 := hnd
    simp only [List.nodup_append] at h7
    exact h7.1
  have hc : cnt_Pots d = (tIntSS.mks d.1 + (0 + 0)) := rfl
  unfold MarkC
  rw [hc]
  rw [hc] at hk
  obtain ⟨N0, hN0⟩ : ∃ z, tIntSS.mks d.1 = z := ⟨_, rfl⟩
  have HN0 := Lib.hid hN0
  rw [hN0] at hk
  rw [hN0]
  have HE0 : Hid (KeepB (b0 ++ (b1 ++ (b2))) w (w.alloc (.cells #[vx_Pots, .int .i64 x_Groups, .int .i64 x_Most] 26))) := KeepB.of_below ((Below.refl _ _).alloc (Nat.le_refl _) _)
  have BX0 : Hid (BoxN (w.alloc (.cells #[vx_Pots, .int .i64 x_Groups, .int .i64 x_Most] 26)) w.heap.size [vx_Pots, .int .i64 x_Groups, .int .i64 x_Most]) := BoxN.made (Below.refl _ _) rfl
  have Q0_0 := Lib.hid (KeepB.ow (bs := []) HP0.out (KeepB.of_below ((Below.refl _ _).alloc (Nat.le_refl _) (.cells #[vx_Pots, .int .i64 x_Groups, .int .i64 x_Most] 26))) (fun q _ hq => by cases hq))
  clear hc h hnd P0 P1 P2 hN0
  have c0 := BX0.out.2 0 _ rfl
  have c1 := BX0.out.2 1 _ rfl
  have c2 := BX0.out.2 2 _ rfl
  have bl := BX0.out.1
  go_enter Try.func35, Try.ntmps35
  go_wp2_with fail
  refine (yb_mk_IntSS vx_Pots d.1 (k) lo b0 _ Q0_0.out ND0.out (by omega) (by have := HN0.out; omega)).mono ?_
  rintro e w1 ⟨rfl, hr1, hk1⟩
  have HR0_1 := Lib.hid hr1
  have HE1 := Lib.hid (KeepB.mono (KeepB.trans HE0.out hk1) (b2 := b0 ++ (b1 ++ (b2))) (fun q hq => (List.mem_append.1 hq).elim id (HMEM0.out q)))
  have BX1 := Lib.hid (KeepB.box BX0.out hk1 (fun hq => by have := (HLT.out _ (HMEM0.out _ hq)).2; omega))
  rw [HN0.out]
  clear c0 c1 c2 bl BX0 hr1 hk1 HE0 Q0_0
  have c0 := BX1.out.2 0 _ rfl
  have c1 := BX1.out.2 1 _ rfl
  have c2 := BX1.out.2 2 _ rfl
  have bl := BX1.out.1
  have HRR : Hid (tPots.Rd w1 (fun q => q ∈ b0 ++ (b1 ++ (b2))) [vx_Pots, .int .i64 x_Groups, .int .i64 x_Most] (top_Pots k d)) := by
    unfold top_Pots
    exact ⟨[vx_Pots], _, rfl, (tIntSS.rd_mono HR0_1.out HMEM0.out), ⟨[.int .i64 x_Groups], _, rfl, (scal_int HP1.out), (scal_int HP2.out)⟩⟩
  have HEE := Lib.hid HE1.out
  go_wp2
  go_ret
  exact ⟨ret_int (by omega), HRR.out, HEE.out⟩
theorem form_Pots {w : World} {B : Nat → Prop} {cs : List Value} {d : tPots.D} (h : tPots.Rd w B cs d) : ∃ (vx_Pots : Value) (x_Groups : Int) (x_Most : Int), cs = [vx_Pots, .int .i64 x_Groups, .int .i64 x_Most] := by
  obtain ⟨c0, r0, e0, h0, t0⟩ := h
  obtain ⟨vx_Pots, _, g0, _⟩ := h0
  obtain ⟨c1, r1, e1, h1, t1⟩ := t0
  have g1 : c1 = [.int .i64 d.2.1] := h1
  have h2 := t1
  have g2 : r1 = [.int .i64 d.2.2] := h2
  exact ⟨vx_Pots, d.2.1, d.2.2, by rw [e0, e1, g0, g1, g2]; rfl⟩
theorem cntle_Pots (d : tPots.D) : cnt_Pots d ≤ tPots.mks d := by
  have e1 : cnt_Pots d = (tIntSS.mks d.1 + (0 + 0)) := rfl
  have e2 : tPots.mks d = (tIntSS.mks d.1 + (tInt.mks d.2.1 + tInt.mks d.2.2)) := rfl
  rw [e1, e2]
  omega
end Go.Proofs.Ytmhkkdnopcdibaa
