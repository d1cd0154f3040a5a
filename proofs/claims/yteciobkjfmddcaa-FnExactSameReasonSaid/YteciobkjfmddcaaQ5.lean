/-
  Packed: Lists2, SplitBy, RankFacts, Rank, RankFrom, Cur, RulesMake, SeasonMake, SeasonMake2, Num, IntFmt, FieldMake, BookMake, BookMake2.
-/
import Derived.OneCell
import Derived.Test.YteciobkjfmddcaaProg
import Derived.Lib.Hide
import Derived.Outline
import Derived.Deep.QuietTactic
import Derived.BigQuiet
import Derived.Deep.DeepCutAuto
import Derived.Lib.ItoaNum
import Derived.Lib.AtoiAll
import Derived.Laws.BytesArg
import Derived.Deep.RegionWith
import Derived.WalkSmall
import Derived.Sort.Grow
import Derived.KernelRfl
import Derived.Deep.RegionHeld3
import Derived.Deep.AppendLies
import Derived.Test.YteciobkjfmddcaaQ1
import Derived.Test.YteciobkjfmddcaaQ2
import Derived.Test.YteciobkjfmddcaaQ3
import Derived.Test.YteciobkjfmddcaaQ4
set_option linter.unusedVariables false
namespace Go.Proofs.Yteciobkjfmddcaa
open Go.RowKit

theorem pairwise_set {α : Type} {R : α → α → Prop} (hs : ∀ a b, R a b → R b a) : ∀ (l : List α) (i : Nat) (x : α), l.Pairwise R → (∀ j y, j ≠ i → l[j]? = some y → R x y) → (l.set i x).Pairwise R
  | [], _, _, h, _ => by simp
  | y :: l, 0, x, h, hx => by
    rw [List.set_cons_zero, List.pairwise_cons]
    exact ⟨fun z hz => by obtain ⟨j, hj⟩ := List.mem_iff_getElem?.1 hz; exact hx (j + 1) z (by omega) (by simpa using hj), (List.pairwise_cons.1 h).2⟩
  | y :: l, i + 1, x, h, hx => by
    rw [List.set_cons_succ, List.pairwise_cons]
    refine ⟨fun z hz => ?_, pairwise_set hs l i x (List.pairwise_cons.1 h).2 fun j z hj hz => hx (j + 1) z (by omega) (by simpa using hz)⟩
    rcases List.mem_or_eq_of_mem_set hz with hz | rfl
    · exact (List.pairwise_cons.1 h).1 z hz
    · exact hs _ _ (hx 0 y (by omega) rfl)
theorem pairwise_at {α : Type} {R : α → α → Prop} (hs : ∀ a b, R a b → R b a) : ∀ (l : List α) (i j : Nat) (x y : α), l.Pairwise R → l[i]? = some x → l[j]? = some y → i ≠ j → R x y
  | [], _, _, _, _, _, h, _, _ => by simp at h
  | z :: l, 0, 0, _, _, _, _, _, hn => absurd rfl hn
  | z :: l, 0, j + 1, x, y, h, h1, h2, _ => by
    simp only [List.getElem?_cons_zero, Option.some.injEq] at h1
    subst h1
    exact (List.pairwise_cons.1 h).1 y (List.mem_of_getElem? (by simpa using h2))
  | z :: l, i + 1, 0, x, y, h, h1, h2, _ => by
    simp only [List.getElem?_cons_zero, Option.some.injEq] at h2
    subst h2
    exact hs _ _ ((List.pairwise_cons.1 h).1 x (List.mem_of_getElem? (by simpa using h1)))
  | z :: l, i + 1, j + 1, x, y, h, h1, h2, hn => pairwise_at hs l i j x y (List.pairwise_cons.1 h).2 (by simpa using h1) (by simpa using h2) (by omega)
/-- groups under way: the outer slice ov, the values' slice av, the groups with their slices -/
def SplitSt (w : World) (B : Nat) (ov av : Value) (T : List (Int × Value × List Int)) : Prop :=
  w.ownsRow B 22 1 ov T.length (T.map fun x => x.2.1) ∧ w.ownsRow B 3 1 av T.length (T.map fun x => Value.int .i64 x.1) ∧ OwnT w B 3 T ∧ ApartL (ov :: av :: T.map fun x => x.2.1)
theorem SplitSt.below {w w' : World} {B C : Nat} {ov av : Value} {T : List (Int × Value × List Int)} (h : SplitSt w B ov av T) (hb : Below C w w') (hC : w.heap.size ≤ C) : SplitSt w' B ov av T :=
  ⟨owns_below h.1 hb hC, owns_below h.2.1 hb hC, h.2.2.1.below hb hC, h.2.2.2⟩
theorem apart_ne {v : Value} {g : Nat} {n c : Nat} (h : ApartV (.slice (some ⟨g, 0, none⟩) n c) v) : v.ownBlock ≠ some g := h g rfl
/-- an element put behind a group that there is -/
theorem SplitSt.old {w w' : World} {B og oc ld gg m c' : Nat} {av iv : Value} {v t : Int} {p : List Int} {T : List (Int × Value × List Int)}
    (h : SplitSt w B (.slice (some ⟨og, 0, none⟩) T.length oc) av T) (hx : T[ld]? = some (v, iv, p)) (hg : w.grownBy w' iv.ownBlock)
    (ho : w'.ownsRow B 3 1 (.slice (some ⟨gg, 0, none⟩) (p.length + 1) c') (p.length + 1) (p.map (Value.int .i64) ++ [.int .i64 t])) (hat : iv.ownBlock = some gg ∨ w.heap.size ≤ gg) :
    SplitSt (w'.setCell ⟨og, ld, none⟩ (.slice (some ⟨gg, 0, none⟩) (p.length + 1) c')) B (.slice (some ⟨og, 0, none⟩) T.length oc) av (T.set ld (v, .slice (some ⟨gg, 0, none⟩) (p.length + 1) c', p ++ [t])) := by
  obtain ⟨h1, h2, h3, h4⟩ := h
  have hld : ld < T.length := (List.getElem?_eq_some_iff.1 hx).1
  have ha := List.pairwise_cons.1 h4
  have hb := List.pairwise_cons.1 ha.2
  have hm : ∀ x ∈ T, x.2.1 ∈ T.map fun x => x.2.1 := fun x hx => List.mem_map.2 ⟨x, hx, rfl⟩
  have hxm : (v, iv, p) ∈ T := List.mem_of_getElem? hx
  have hoi : ∀ k, iv.ownBlock = some k → og ≠ k := fun k hk e => ha.1 iv (List.mem_cons_of_mem _ (hm _ hxm)) og rfl (by rw [e]; exact hk)
  have hai : ∀ k, iv.ownBlock = some k → av.ownBlock ≠ some k := fun k hk e => hb.1 iv (hm _ hxm) k e hk
  have hoL := h1.lt og rfl
  have hgo : gg ≠ og := by
    rcases hat with h | h
    · exact fun e => hoi gg h e.symm
    · omega
  have hblk : ∀ k, (Value.slice (some ⟨gg, 0, none⟩) (p.length + 1) c').ownBlock = some k → k = gg := fun k hk => by simpa [Value.ownBlock] using hk.symm
  have hao : av.ownBlock ≠ some og := ha.1 av (List.mem_cons_self ..) og rfl
  have hmap : (T.set ld (v, Value.slice (some ⟨gg, 0, none⟩) (p.length + 1) c', p ++ [t])).map (fun x => x.2.1) = (T.map fun x => x.2.1).set ld (.slice (some ⟨gg, 0, none⟩) (p.length + 1) c') := by rw [List.map_set]
  refine ⟨?_, ?_, ?_, ?_⟩
  · rw [hmap, List.length_set]
    exact ((h1.kept hg (.inr (by cases hk : iv.ownBlock with
      | none => simp [Value.ownBlock]
      | some k => have := hoi k hk; simp [Value.ownBlock]; exact this))).stored ld _).1
  · rw [List.length_set]
    have hmap2 : (T.set ld (v, Value.slice (some ⟨gg, 0, none⟩) (p.length + 1) c', p ++ [t])).map (fun x => Value.int .i64 x.1) = T.map fun x => Value.int .i64 x.1 := by
      rw [List.map_set]
      apply List.ext_getElem?
      intro j
      by_cases e : ld = j
      · subst e
        rw [List.getElem?_set_self (by simpa using hld), List.getElem?_map, hx]
        rfl
      · rw [List.getElem?_set_ne e]
    rw [hmap2]
    refine ownsRow_setCell_other (h2.kept hg ?_) hao _
    cases hk : iv.ownBlock with
    | none => cases hk2 : av.ownBlock with
      | none => exact .inl rfl
      | some k2 => exact .inr (by simp)
    | some k => exact .inr fun e => hai k hk e
  · intro x hxs
    obtain ⟨j, hj⟩ := List.mem_iff_getElem?.1 hxs
    by_cases e : ld = j
    · subst e
      rw [List.getElem?_set_self hld, Option.some.injEq] at hj
      subst hj
      refine ownsRow_setCell_other ?_ ?_ _
      · simpa using ho
      · exact fun e => hgo (hblk og e).symm
    · rw [List.getElem?_set_ne e] at hj
      have hxT := List.mem_of_getElem? hj
      refine ownsRow_setCell_other ((h3 x hxT).kept hg ?_) ?_ _
      · have hap := pairwise_at (fun a b => ApartV.symm) _ ld j iv x.2.1 hb.2 (by rw [List.getElem?_map, hx]; rfl) (by rw [List.getElem?_map, hj]; rfl) e
        cases hk : iv.ownBlock with
        | none => cases hk2 : x.2.1.ownBlock with
          | none => exact .inl rfl
          | some k2 => exact .inr (by simp)
        | some k => exact .inr (hap k hk)
      · exact ha.1 x.2.1 (List.mem_cons_of_mem _ (hm x hxT)) og rfl
  · rw [hmap]
    refine List.pairwise_cons.2 ⟨fun z hz => ?_, List.pairwise_cons.2 ⟨fun z hz => ?_, ?_⟩⟩
    · rcases List.mem_cons.1 hz with rfl | hz
      · exact ha.1 _ (List.mem_cons_self ..)
      · rcases List.mem_or_eq_of_mem_set hz with hz | rfl
        · exact ha.1 z (List.mem_cons_of_mem _ hz)
        · exact fun k h1 h2 => hgo ((hblk k h2).symm.trans (by simpa [Value.ownBlock] using h1.symm))
    · rcases List.mem_or_eq_of_mem_set hz with hz | rfl
      · exact hb.1 z hz
      · intro k h1 h2'
        have := hblk k h2'
        subst this
        rcases hat with h | h
        · exact hai k h h1
        · have := (h2.lt k h1).2; omega
    · refine pairwise_set (fun a b => ApartV.symm) _ _ _ hb.2 fun j y hj hy => ?_
      intro k h1 h2'
      have := hblk k h1
      subst this
      rcases hat with h | h
      · exact pairwise_at (fun a b => ApartV.symm) _ ld j iv y hb.2 (by rw [List.getElem?_map, hx]; rfl) hy (by omega) k h h2'
      · rw [List.getElem?_map] at hy
        cases hT : T[j]? with
        | none => rw [hT] at hy; cases hy
        | some z =>
          rw [hT] at hy
          simp only [Option.map_some, Option.some.injEq] at hy
          subst hy
          have := (h3.lt (List.mem_of_getElem? hT) h2').2
          omega
/-- a group moved in: behind the shift, the value and the new group's slice -/
theorem SplitSt.new {w w' : World} {B ga ca go co D ld : Nat} {v t : Int} {T : List (Int × Value × List Int)}
    (h1 : w.ownsRow B 22 1 (.slice (some ⟨go, 0, none⟩) (T.length + 1) co) (T.length + 1) (gapA (T.map fun x => x.2.1) ld (.slice (some ⟨D, 0, none⟩) 1 1)))
    (h2 : w.ownsRow B 3 1 (.slice (some ⟨ga, 0, none⟩) (T.length + 1) ca) (T.length + 1) ((gapA (T.map Prod.fst) ld v).map (Value.int .i64)))
    (h3 : OwnT w B 3 T) (h4 : ApartL (T.map fun x => x.2.1)) (h5 : w.ownsRow B 3 1 (.slice (some ⟨D, 0, none⟩) 1 1) 1 [.int .i64 t])
    (hgo : ∀ x ∈ T, x.2.1.ownBlock ≠ some go) (hga : ∀ x ∈ T, x.2.1.ownBlock ≠ some ga) (hD : ∀ x ∈ T, x.2.1.ownBlock ≠ some D) (hn1 : go ≠ ga) (hn2 : go ≠ D) (hn3 : ga ≠ D) (hld : ld ≤ T.length) :
    SplitSt w B (.slice (some ⟨go, 0, none⟩) (T.length + 1) co) (.slice (some ⟨ga, 0, none⟩) (T.length + 1) ca) (gapA T ld (v, .slice (some ⟨D, 0, none⟩) 1 1, [t])) := by
  have hl : (gapA T ld (v, Value.slice (some ⟨D, 0, none⟩) 1 1, [t])).length = T.length + 1 := gapA_len hld
  have hb : ∀ (g n c k : Nat), (Value.slice (some ⟨g, 0, none⟩) n c).ownBlock = some k → k = g := fun g n c k hk => by simpa [Value.ownBlock] using hk.symm
  have hin : ∀ y ∈ gapA (T.map fun x => x.2.1) ld (Value.slice (some ⟨D, 0, none⟩) 1 1), y = .slice (some ⟨D, 0, none⟩) 1 1 ∨ ∃ x ∈ T, x.2.1 = y := fun y hy => by
    rcases gapA_mem hy with h | h
    · exact .inl h
    · exact .inr (List.mem_map.1 h)
  refine ⟨by rw [hl, gapA_map]; exact h1, ?_, ?_, ?_⟩
  · rw [hl, gapA_map]
    rw [gapA_map, List.map_map] at h2
    exact h2
  · intro x hx
    rcases gapA_mem hx with rfl | hx
    · exact h5
    · exact h3 x hx
  · rw [gapA_map]
    refine List.pairwise_cons.2 ⟨fun z hz => ?_, List.pairwise_cons.2 ⟨fun z hz => ?_, gapA_pairwise h4 (fun y hy => ?_) fun y hy => ?_⟩⟩
    · rcases List.mem_cons.1 hz with rfl | hz
      · intro k e1 e2
        exact hn1 ((hb _ _ _ _ e1).symm.trans (hb _ _ _ _ e2))
      · rcases hin z hz with rfl | ⟨x, hx, rfl⟩
        · intro k e1 e2
          exact hn2 ((hb _ _ _ _ e1).symm.trans (hb _ _ _ _ e2))
        · intro k e1 e2
          have := hb _ _ _ _ e1
          subst this
          exact hgo x hx e2
    · rcases hin z hz with rfl | ⟨x, hx, rfl⟩
      · intro k e1 e2
        exact hn3 ((hb _ _ _ _ e1).symm.trans (hb _ _ _ _ e2))
      · intro k e1 e2
        have := hb _ _ _ _ e1
        subst this
        exact hga x hx e2
    · obtain ⟨x, hx, rfl⟩ := List.mem_map.1 hy
      intro k e1 e2
      have := hb _ _ _ _ e2
      subst this
      exact hD x hx e1
    · obtain ⟨x, hx, rfl⟩ := List.mem_map.1 hy
      intro k e1 e2
      have := hb _ _ _ _ e1
      subst this
      exact hD x hx e2
theorem OwnT.store {w : World} {B : Nat} {e : TypeId} {T : List (Int × Value × List Int)} (h : OwnT w B e T) {a : Addr} (ha : ∀ x ∈ T, x.2.1.ownBlock ≠ some a.block) (u : Value) : OwnT (w.setCell a u) B e T :=
  fun x hx => ownsRow_setCell_other (h x hx) (ha x hx) u
/-- w holds a list of lists of ints: the outer slice v, and the inner ones with what they hold -/
def LL (w : World) (B : Nat) (v : Value) (T : List (Value × List Int)) : Prop :=
  w.ownsRow B 22 1 v T.length (T.map Prod.fst) ∧ (∀ x ∈ T, w.ownsRow B 3 1 x.1 x.2.length (x.2.map (Value.int .i64))) ∧ ApartL (v :: T.map Prod.fst)
theorem LL.below {w w' : World} {B C : Nat} {v : Value} {T : List (Value × List Int)} (h : LL w B v T) (hb : Below C w w') (hC : w.heap.size ≤ C) : LL w' B v T :=
  ⟨owns_below h.1 hb hC, fun x hx => owns_below (h.2.1 x hx) hb hC, h.2.2⟩
theorem LL.mono {w : World} {B B' : Nat} {v : Value} {T : List (Value × List Int)} (h : LL w B v T) (hb : B' ≤ B) : LL w B' v T :=
  ⟨owns_mono h.1 hb, fun x hx => owns_mono (h.2.1 x hx) hb, h.2.2⟩
theorem SplitSt.ll {w : World} {B : Nat} {ov av : Value} {T : List (Int × Value × List Int)} (h : SplitSt w B ov av T) : LL w B ov (T.map Prod.snd) := by
  obtain ⟨h1, _, h3, h4⟩ := h
  refine ⟨by rw [List.length_map, List.map_map]; exact h1, fun x hx => ?_, ?_⟩
  · obtain ⟨y, hy, rfl⟩ := List.mem_map.1 hx
    exact h3 y hy
  · rw [List.map_map]
    have ha := List.pairwise_cons.1 h4
    exact List.pairwise_cons.2 ⟨fun z hz => ha.1 z (List.mem_cons_of_mem _ hz), (List.pairwise_cons.1 ha.2).2⟩
/-- 'append(s, x...)' for a slice s of the call's own and a slice x of m records of k cells -/
theorem wpList_appendR {P : Program} {w : World} {ops : Array Oper} {rest : List Oper} {o : Oper} {a : Act} {Q : Exit → Act → World → Prop} (hgd : o.guard = none) (s x : Operand) (t : TypeId)
    (ho : o.op = .call { callee := .builtin .append, args := #[s, x], argTypes := #[t, t] })
    (base : Nat) (e : TypeId) {i : TypeInfo} {z : Value} {k bytes : Nat} (ht : P.underlying t = some (.slice e)) (hi : P.info? e = some i) (hz : i.zero = some z) (hsize : i.size = k) (hby : i.bytes = bytes) (hzs : z.cells.size = k) (hk0 : 0 < k)
    {v u : Value} {n m : Nat} {xs : List Value} {g : Nat → List Value} (hs : a.eval s = v) (hown : w.ownsRow base e k v n xs) (hx : a.eval x = u) (hrow : RecRow k w u m g) (hgl : ∀ i, i < m → (g i).length = k) (h1 : ∀ i, i < m → ∀ u ∈ g i, u.oneCell' = true)
    (hm : n + m ≤ 1048576) (hb : bytes ≤ 1048576) (hbase : base ≤ w.heap.size)
    (h : ∀ vv w', w'.ownsRow base e k vv (n + m) (xs ++ flatR g m) → w.grownBy w' v.ownBlock → (∀ q, vv.ownBlock = some q → v.ownBlock = some q ∨ w.heap.size ≤ q) → wpList P ops Q rest (a.put o.dst vv) w') : wpList P ops Q (o :: rest) a w := by
  rcases hrow with ⟨ad, cap, rfl, rfl⟩ | ⟨b, off, c, rfl, h0, _, hc, _⟩
  · exact wpList_appendZero hgd s x t ho base e i k ht hi v n xs hs hown ad cap hx (h _ _ (by simpa [flatR] using hown) ⟨rfl, rfl, rfl, Nat.le_refl _, fun _ _ _ => rfl⟩ fun q hq => .inl hq)
  · have hmul : (n + m) * bytes ≤ 1048576 * 1048576 := Nat.mul_le_mul hm hb
    refine wpList_append_lies _ hgd s x t ho base e i z k bytes ht hi hz hsize hby hzs hk0 v n xs hs hown ⟨b, off, none⟩ m c (flatR g m) hx (flatR_len k g m hgl) ?_ ?_ h0 (by unfold maxLen; omega) (by omega) hbase _ rfl ?_
    · intro j u hu
      obtain ⟨hj, hv⟩ := flatR_get k g m hgl hk0 j u hu
      have hadd : (⟨b, off, none⟩ : Addr).add j = ⟨b, off + j, none⟩ := by unfold Addr.add; split <;> simp_all
      have hq := (hc _ hj).2 _ u hv
      rw [show off + j / k * k + j % k = off + j by rw [Nat.add_assoc, Nat.mul_comm, Nat.div_add_mod]] at hq
      rw [hadd]
      exact hq
    · intro u hu
      unfold flatR at hu
      rw [List.mem_flatMap] at hu
      obtain ⟨j, hj, hu⟩ := hu
      exact h1 j (List.mem_range.1 hj) u hu
    · intro gg cap w' ho' hg' hat hlt
      refine h _ w' ho' hg' fun q hq => ?_
      have hq' : gg = q := by simpa [Value.ownBlock] using hq
      subst hq'
      rcases hat with h5 | h5
      · exact .inl h5
      · exact .inr (by omega)
theorem OwnT_nil {w : World} {B : Nat} {e : TypeId} : OwnT w B e [] := fun x hx => by cases hx
theorem one_of_slice {v : Value} {w : World} {base : Nat} {e : TypeId} {size n : Nat} {xs : List Value} (h : w.ownsRow base e size v n xs) : v.oneCell' = true := by
  obtain ⟨a, c, rfl⟩ := owns_form h
  rfl
/-- the rows of a list of lists put behind those of another -/
theorem LL.append {w w0 w' : World} {B B' : Nat} {v v2 vv : Value} {T T2 : List (Value × List Int)} (h : LL w0 B v T) (hw : Below w0.heap.size w0 w) (h2 : LL w B' v2 T2) (hB : B ≤ B') (hB2 : w0.heap.size ≤ B')
    (ho : w'.ownsRow B 22 1 vv (T.length + T2.length) (T.map Prod.fst ++ T2.map Prod.fst)) (hg : w.grownBy w' v.ownBlock) (hat : ∀ q, vv.ownBlock = some q → v.ownBlock = some q ∨ w.heap.size ≤ q) : LL w' B vv (T ++ T2) := by
  have h' := h.below hw (Nat.le_refl _)
  have hA := List.pairwise_cons.1 h.2.2
  have hA2 := List.pairwise_cons.1 h2.2.2
  have k1 : ∀ x ∈ T, v.ownBlock = none ∨ ∀ k, x.1.ownBlock = some k → v.ownBlock ≠ some k := fun x hx => .inr fun k hk e => hA.1 x.1 (List.mem_map.2 ⟨x, hx, rfl⟩) k e hk
  have lt0 : ∀ k, v.ownBlock = some k → k < w0.heap.size := fun k hk => (h.1.lt k hk).2
  refine ⟨by rw [List.length_append, List.map_append]; exact ho, fun x hx => ?_, ?_⟩
  · rcases List.mem_append.1 hx with hx | hx
    · refine (h'.2.1 x hx).kept hg ?_
      cases hk : x.1.ownBlock with
      | none => exact .inl rfl
      | some k => exact .inr fun e => hA.1 x.1 (List.mem_map.2 ⟨x, hx, rfl⟩) k e.symm hk
    · refine owns_mono ((h2.2.1 x hx).kept hg ?_) hB
      cases hk : x.1.ownBlock with
      | none => exact .inl rfl
      | some k =>
        refine .inr fun e => ?_
        have := lt0 k e.symm
        have := ((h2.2.1 x hx).lt k hk).1
        omega
  · rw [List.map_append]
    refine List.pairwise_cons.2 ⟨fun z hz => ?_, List.pairwise_append.2 ⟨hA.2, hA2.2, fun a ha b hb => ?_⟩⟩
    · rcases List.mem_append.1 hz with hz | hz
      · intro k e1 e2
        rcases hat k e1 with h5 | h5
        · exact hA.1 z hz k h5 e2
        · obtain ⟨x, hx, rfl⟩ := List.mem_map.1 hz
          have := ((h'.2.1 x hx).lt k e2).2
          omega
      · intro k e1 e2
        obtain ⟨x, hx, rfl⟩ := List.mem_map.1 hz
        have h6 := (h2.2.1 x hx).lt k e2
        rcases hat k e1 with h5 | h5
        · have := lt0 k h5; omega
        · omega
    · intro k e1 e2
      obtain ⟨x, hx, rfl⟩ := List.mem_map.1 ha
      obtain ⟨y, hy, rfl⟩ := List.mem_map.1 hb
      have := ((h.2.1 x hx).lt k e1).2
      have := ((h2.2.1 y hy).lt k e2).1
      omega
/-- the call makes the lists L in memory of its own -/
def ListsL (w : World) (L : List (List Int)) (e : Ending) (w' : World) : Prop :=
  ∃ v T, e = .returned v ∧ T.map Prod.snd = L ∧ LL w' w.heap.size v T ∧ Below w.heap.size w w'
end Go.Proofs.Yteciobkjfmddcaa
set_option linter.unusedVariables false
namespace Go.Proofs.Yteciobkjfmddcaa
open Go.RowKit

theorem Try.infoL : (Try.prog.info? 22).map (fun i => (i.zero, i.size, i.bytes)) = some (some (.slice none 0 0), 1, 24) := by kernel_rfl
theorem fresh_ne {w : World} {B : Nat} {e : TypeId} {sz : Nat} {v x : Value} {n : Nat} {xs : List Value} (hx : w.ownsRow B e sz x n xs) (ha : ApartV v x) {g : Nat} (hat : v.ownBlock = some g ∨ w.heap.size ≤ g) : x.ownBlock ≠ some g := fun e1 => by
  rcases hat with h | h
  · exact ha g h e1
  · have := (hx.lt g e1).2; omega
theorem apart_row {v x : Value} (ha : ApartV v x) : ∀ k, x.ownBlock = some k → v.ownBlock ≠ some k := fun k h1 h2 => ha k h2 h1
theorem kept_apart {w w' : World} {B : Nat} {e : TypeId} {sz : Nat} {v x : Value} {n : Nat} {xs : List Value} (hx : w.ownsRow B e sz x n xs) (ha : ApartV v x) (hg : w.grownBy w' v.ownBlock) : w'.ownsRow B e sz x n xs := by
  refine hx.kept hg ?_
  cases hk : x.ownBlock with
  | none => exact .inl rfl
  | some k => exact .inr fun e1 => apart_row ha k hk e1.symm
theorem SplitSt.apart {w : World} {B : Nat} {ov av : Value} {T : List (Int × Value × List Int)} (h : SplitSt w B ov av T) : ApartV ov av ∧ (∀ x ∈ T, ApartV ov x.2.1) ∧ ∀ x ∈ T, ApartV av x.2.1 := by
  have h1 := List.pairwise_cons.1 h.2.2.2
  have h2 := List.pairwise_cons.1 h1.2
  have hm : ∀ x ∈ T, x.2.1 ∈ T.map fun x => x.2.1 := fun x hx => List.mem_map.2 ⟨x, hx, rfl⟩
  exact ⟨h1.1 av (List.mem_cons_self ..), fun x hx => h1.1 _ (List.mem_cons_of_mem _ (hm x hx)), fun x hx => h2.1 _ (hm x hx)⟩
/-- behind the append to the values' slice -/
theorem SplitSt.grow1 {w w' : World} {B ga : Nat} {ov av : Value} {T : List (Int × Value × List Int)} (h : SplitSt w B ov av T) (hg : w.grownBy w' av.ownBlock) (hat : av.ownBlock = some ga ∨ w.heap.size ≤ ga) :
    w'.ownsRow B 22 1 ov T.length (T.map fun x => x.2.1) ∧ OwnT w' B 3 T ∧ (∀ x ∈ T, x.2.1.ownBlock ≠ some ga) ∧ ov.ownBlock ≠ some ga := by
  obtain ⟨a1, a2, a3⟩ := h.apart
  exact ⟨kept_apart h.1 a1.symm hg, fun x hx => kept_apart (h.2.2.1 x hx) (a3 x hx) hg, fun x hx => fresh_ne (h.2.2.1 x hx) (a3 x hx) hat, fresh_ne h.1 a1.symm hat⟩
/-- behind the append to the outer slice -/
theorem SplitSt.grow2 {w0 w w' : World} {B ga ca na go : Nat} {ov av : Value} {T : List (Int × Value × List Int)} {xs : List Value} (h0 : SplitSt w0 B ov av T) (hov : w.ownsRow B 22 1 ov T.length (T.map fun x => x.2.1)) (hT : OwnT w B 3 T)
    (ha : w.ownsRow B 3 1 (.slice (some ⟨ga, 0, none⟩) na ca) na xs) (hn : ov.ownBlock ≠ some ga) (hg : w.grownBy w' ov.ownBlock) (hat : ov.ownBlock = some go ∨ w.heap.size ≤ go) :
    w'.ownsRow B 3 1 (.slice (some ⟨ga, 0, none⟩) na ca) na xs ∧ OwnT w' B 3 T ∧ (∀ x ∈ T, x.2.1.ownBlock ≠ some go) ∧ go ≠ ga := by
  obtain ⟨a1, a2, a3⟩ := h0.apart
  have a4 : ApartV ov (.slice (some ⟨ga, 0, none⟩) na ca) := fun k h1 h2 => hn (by rw [h1]; simpa [Value.ownBlock] using h2.symm)
  refine ⟨kept_apart ha a4 hg, fun x hx => kept_apart (hT x hx) (a2 x hx) hg, fun x hx => fresh_ne (hT x hx) (a2 x hx) hat, fun e => ?_⟩
  exact fresh_ne ha a4 hat (by rw [e]; rfl)
theorem split_len {V : Nat → Int} {gg : Nat → Int} : ∀ k, (splitP V gg k).length ≤ k
  | 0 => Nat.le_refl _
  | k + 1 => by
    have h : ∀ v t (L : List (Int × List Int)), (insP v t L).length ≤ L.length + 1 := fun v t L => by
      induction L with
      | nil => simp [insP]
      | cons y L ih => unfold insP; split <;> (try split) <;> simp <;> omega
    have := h (V (gg k).toNat) (gg k) (splitP V gg k)
    have := split_len (V := V) (gg := gg) k
    show (insP _ _ _).length ≤ _
    omega
theorem split_lens {V : Nat → Int} {gg : Nat → Int} : ∀ k x, x ∈ splitP V gg k → x.2.length ≤ k
  | 0 => fun x hx => by simp [splitP] at hx
  | k + 1 => by
    have h : ∀ v t m (L : List (Int × List Int)), (∀ x ∈ L, x.2.length ≤ m) → ∀ x ∈ insP v t L, x.2.length ≤ m + 1 := fun v t m L => by
      induction L with
      | nil => intro _ x hx; simp [insP] at hx; subst hx; simp
      | cons y L ih =>
        intro h x hx
        have h0 := h y (List.mem_cons_self ..)
        have h1 := fun z hz => h z (List.mem_cons_of_mem y hz)
        unfold insP at hx
        split at hx
        · rcases List.mem_cons.1 hx with rfl | hx
          · exact Nat.le_succ_of_le h0
          · exact ih h1 x hx
        · split at hx
          · rcases List.mem_cons.1 hx with rfl | hx
            · simp; exact h0
            · exact Nat.le_succ_of_le (h1 x hx)
          · rcases List.mem_cons.1 hx with rfl | hx
            · simp
            · rcases List.mem_cons.1 hx with rfl | hx
              · exact Nat.le_succ_of_le h0
              · exact Nat.le_succ_of_le (h1 x hx)
    exact h _ _ k _ (split_lens k)
/-- the data of the groups: values and lists -/
def datT (T : List (Int × Value × List Int)) : List (Int × List Int) := T.map fun x => (x.1, x.2.2)
theorem datT_lead (v : Int) (T : List (Int × Value × List Int)) : leadV Prod.fst v (datT T) = leadV Prod.fst v T := by
  induction T with
  | nil => rfl
  | cons y T ih =>
    show leadV Prod.fst v ((y.1, y.2.2) :: datT T) = _
    unfold leadV
    rw [ih]
theorem datT_get {T : List (Int × Value × List Int)} {j : Nat} {x : Int × Value × List Int} (h : T[j]? = some x) : (datT T)[j]? = some (x.1, x.2.2) := by
  unfold datT; rw [List.getElem?_map, h]; rfl
theorem datT_some {T : List (Int × Value × List Int)} {j : Nat} {x : Int × List Int} (h : (datT T)[j]? = some x) : ∃ iv, T[j]? = some (x.1, iv, x.2) := by
  unfold datT at h
  rw [List.getElem?_map] at h
  cases hT : T[j]? with
  | none => rw [hT] at h; cases h
  | some y => rw [hT] at h; simp only [Option.map_some, Option.some.injEq] at h; subst h; exact ⟨y.2.1, rfl⟩
theorem datT_set (T : List (Int × Value × List Int)) (j : Nat) (v : Int) (iv : Value) (p : List Int) : datT (T.set j (v, iv, p)) = (datT T).set j (v, p) := by
  unfold datT; rw [List.map_set]
theorem datT_gap (T : List (Int × Value × List Int)) (j : Nat) (v : Int) (iv : Value) (p : List Int) : datT (gapA T j (v, iv, p)) = gapA (datT T) j (v, p) := by
  unfold datT; rw [gapA_map]
theorem ints_at {w : World} {B n : Nat} {v : Value} {L : List Int} {j : Nat} {x : Int} (h : w.ownsRow B 3 1 v n (L.map (Value.int .i64))) (hj : L[j]? = some x) :
    ∃ g c, v = .slice (some ⟨g, 0, none⟩) n c ∧ n ≤ c ∧ j < n ∧ w.cell? ⟨g, j, none⟩ = some (.int .i64 x) := by
  have hl := h.1
  have hjl : j < L.length := (List.getElem?_eq_some_iff.1 hj).1
  simp at hl
  rcases h.2 with ⟨_, h0⟩ | ⟨g, cap, cur, rfl, hb, hg, hnc, rest⟩
  · omega
  · refine ⟨g, cap, rfl, hnc, by omega, ?_⟩
    rw [h.cellAt j (by omega), List.getElem?_map, hj]
    rfl
theorem vals_at {w : World} {B n : Nat} {e : TypeId} {v : Value} {L : List Value} {j : Nat} {x : Value} (h : w.ownsRow B e 1 v n L) (hj : L[j]? = some x) :
    ∃ g c, v = .slice (some ⟨g, 0, none⟩) n c ∧ n ≤ c ∧ j < n ∧ w.cell? ⟨g, j, none⟩ = some x := by
  have hl := h.1
  have hjl : j < L.length := (List.getElem?_eq_some_iff.1 hj).1
  rcases h.2 with ⟨_, h0⟩ | ⟨g, cap, cur, rfl, hb, hg, hnc, rest⟩
  · omega
  · refine ⟨g, cap, rfl, hnc, by omega, ?_⟩
    rw [h.cellAt j (by omega), hj]
end Go.Proofs.Yteciobkjfmddcaa
set_option linter.unusedVariables false
namespace Go.Proofs.Yteciobkjfmddcaa
open Go.RowKit

theorem leadV_map {α β : Type} (h : α → β) (f : β → Int) (v : Int) : ∀ L : List α, leadV f v (L.map h) = leadV (fun x => f (h x)) v L
  | [] => rfl
  | y :: L => by
    rw [List.map_cons]
    unfold leadV
    rw [leadV_map h f v L]
def lenS (L : List (Int × List Int)) : Nat := (L.map fun x => x.2.length).sum
theorem insP_sum (v t : Int) : ∀ L, lenS (insP v t L) = lenS L + 1
  | [] => rfl
  | (u, p) :: r => by
    have ih := insP_sum v t r
    unfold lenS at ih ⊢
    unfold insP
    split
    · simp only [List.map_cons, List.sum_cons, ih]; omega
    · split
      · simp only [List.map_cons, List.sum_cons, List.length_append, List.length_cons, List.length_nil]; omega
      · simp only [List.map_cons, List.sum_cons, List.length_cons, List.length_nil]; omega
theorem insP_ne (v t : Int) : ∀ L : List (Int × List Int), (∀ x ∈ L, x.2 ≠ []) → ∀ x ∈ insP v t L, x.2 ≠ []
  | [], _, x, hx => by
    unfold insP at hx
    rw [List.mem_singleton.1 hx]; simp
  | (u, p) :: r, h, x, hx => by
    unfold insP at hx
    have hr : ∀ x ∈ r, x.2 ≠ [] := fun x hx => h x (List.mem_cons_of_mem _ hx)
    split at hx
    · rcases List.mem_cons.1 hx with rfl | hx
      · exact h _ (List.mem_cons_self ..)
      · exact insP_ne v t r hr x hx
    · split at hx
      · rcases List.mem_cons.1 hx with rfl | hx
        · simp
        · exact hr x hx
      · rcases List.mem_cons.1 hx with rfl | hx
        · simp
        · exact h x hx
theorem insP_mem (v t : Int) : ∀ L : List (Int × List Int), ∀ x ∈ insP v t L, ∀ u ∈ x.2, u = t ∨ ∃ y ∈ L, u ∈ y.2
  | [], x, hx, u, hu => by
    unfold insP at hx
    rw [List.mem_singleton.1 hx] at hu
    exact .inl (List.mem_singleton.1 hu)
  | (q, p) :: r, x, hx, u, hu => by
    unfold insP at hx
    split at hx
    · rcases List.mem_cons.1 hx with rfl | hx
      · exact .inr ⟨_, List.mem_cons_self .., hu⟩
      · rcases insP_mem v t r x hx u hu with h | ⟨y, hy, h⟩
        · exact .inl h
        · exact .inr ⟨y, List.mem_cons_of_mem _ hy, h⟩
    · split at hx
      · rcases List.mem_cons.1 hx with rfl | hx
        · rcases List.mem_append.1 hu with h | h
          · exact .inr ⟨_, List.mem_cons_self .., h⟩
          · exact .inl (List.mem_singleton.1 h)
        · exact .inr ⟨x, List.mem_cons_of_mem _ hx, hu⟩
      · rcases List.mem_cons.1 hx with rfl | hx
        · exact .inl (List.mem_singleton.1 hu)
        · exact .inr ⟨x, hx, hu⟩
theorem insP_len (v t : Int) : ∀ L, (insP v t L).length ≤ L.length + 1
  | [] => Nat.le_refl _
  | (u, p) :: r => by
    have ih := insP_len v t r
    unfold insP
    split
    · simp only [List.length_cons]; omega
    · split
      · simp only [List.length_cons]; omega
      · simp only [List.length_cons]; omega
section
variable (V gg : Nat → Int)
theorem splitP_sum : ∀ k, lenS (splitP V gg k) = k
  | 0 => rfl
  | k + 1 => by unfold splitP; rw [insP_sum, splitP_sum k]
theorem splitP_ne : ∀ k, ∀ x ∈ splitP V gg k, x.2 ≠ []
  | 0, x, hx => by cases hx
  | k + 1, x, hx => insP_ne _ _ _ (splitP_ne k) x hx
theorem splitP_mem : ∀ k, ∀ x ∈ splitP V gg k, ∀ u ∈ x.2, ∃ i, i < k ∧ u = gg i
  | 0, x, hx => by cases hx
  | k + 1, x, hx => fun u hu => by
    rcases insP_mem _ _ _ x hx u hu with h | ⟨y, hy, h⟩
    · exact ⟨k, Nat.lt_succ_self _, h⟩
    · obtain ⟨i, hi, e⟩ := splitP_mem k y hy u h
      exact ⟨i, by omega, e⟩
theorem splitP_len : ∀ k, (splitP V gg k).length ≤ k
  | 0 => Nat.le_refl _
  | k + 1 => by unfold splitP; have := insP_len (V (gg k).toNat) (gg k) (splitP V gg k); have := splitP_len k; omega
theorem splitP_congr {V' gg' : Nat → Int} : ∀ k, (∀ i, i < k → gg i = gg' i) → (∀ i, V i = V' i) → splitP V gg k = splitP V' gg' k
  | 0, _, _ => rfl
  | k + 1, h, hV => by
    unfold splitP
    rw [splitP_congr k (fun i hi => h i (by omega)) hV, h k (Nat.lt_succ_self _), hV]
end
theorem part_le {L : List (Int × List Int)} {x : Int × List Int} (h : x ∈ L) : x.2.length ≤ lenS L := by
  induction L with
  | nil => cases h
  | cons y L ih =>
    unfold lenS at ih ⊢
    rw [List.map_cons, List.sum_cons]
    rcases List.mem_cons.1 h with rfl | h
    · omega
    · have := ih h; omega
theorem sum_pos {L : List (Int × List Int)} (hne : ∀ x ∈ L, x.2 ≠ []) (h : L ≠ []) : 0 < lenS L := by
  cases L with
  | nil => exact absurd rfl h
  | cons y L =>
    unfold lenS
    rw [List.map_cons, List.sum_cons]
    have := List.length_pos_iff.2 (hne y (List.mem_cons_self ..))
    omega
theorem part_lt {L : List (Int × List Int)} {x : Int × List Int} (hne : ∀ x ∈ L, x.2 ≠ []) (h : x ∈ L) (hl : 1 < L.length) : x.2.length < lenS L := by
  cases L with
  | nil => cases h
  | cons y L =>
    have hL : L ≠ [] := by intro e; subst e; simp at hl
    have hp := sum_pos (fun x hx => hne x (List.mem_cons_of_mem _ hx)) hL
    have hy := List.length_pos_iff.2 (hne y (List.mem_cons_self ..))
    rcases List.mem_cons.1 h with rfl | h
    · unfold lenS at hp ⊢; rw [List.map_cons, List.sum_cons]; omega
    · have := part_le h
      unfold lenS at this ⊢; rw [List.map_cons, List.sum_cons]; omega
/-- the parts of a group with equal values of a key -/
def partsL (b : BookD) (key : Int) (gg : Nat → Int) (n : Nat) : List (List Int) := (splitP (bookV b key gg n) gg n).map Prod.snd
theorem partsL_le {b : BookD} {key : Int} {gg : Nat → Int} {n : Nat} {p : List Int} (h : p ∈ partsL b key gg n) : p.length ≤ n := by
  obtain ⟨x, hx, rfl⟩ := List.mem_map.1 h
  have := part_le hx
  rw [splitP_sum] at this
  exact this
theorem partsL_lt {b : BookD} {key : Int} {gg : Nat → Int} {n : Nat} {p : List Int} (h : p ∈ partsL b key gg n) (hl : 1 < (partsL b key gg n).length) : p.length < n := by
  obtain ⟨x, hx, rfl⟩ := List.mem_map.1 h
  have := part_lt (splitP_ne _ _ _) hx (by unfold partsL at hl; rwa [List.length_map] at hl)
  rw [splitP_sum] at this
  exact this
theorem partsL_ne {b : BookD} {key : Int} {gg : Nat → Int} {n : Nat} {p : List Int} (h : p ∈ partsL b key gg n) : p ≠ [] := by
  obtain ⟨x, hx, rfl⟩ := List.mem_map.1 h
  exact splitP_ne _ _ _ x hx
theorem partsL_mem {b : BookD} {key : Int} {gg : Nat → Int} {n : Nat} {p : List Int} (h : p ∈ partsL b key gg n) : ∀ u ∈ p, ∃ i, i < n ∧ u = gg i := by
  obtain ⟨x, hx, rfl⟩ := List.mem_map.1 h
  exact splitP_mem _ _ _ x hx
theorem partsL_len {b : BookD} {key : Int} {gg : Nat → Int} {n : Nat} : (partsL b key gg n).length ≤ n := by
  unfold partsL; rw [List.length_map]; exact splitP_len _ _ _
/-- what a ranking from a step on has before it -/
def rankM (nl n s : Nat) : Nat := n * (nl + 1) + (nl - s)
/-- the step from which the parts of a group are ranked -/
def nextS (b : BookD) (m s : Nat) : Nat := if 1 < m ∧ b.again = true ∧ mutualB (b.l s) = true then 0 else s + 1
/-- the ranking of a group by the keys from a step on -/
def rankF (b : BookD) : Nat → List Int → Nat → List (List Int)
  | 0, _, _ => []
  | f + 1, G, s => if G = [] then [] else if G.length = 1 ∨ b.nl ≤ s then [G] else
      (partsL b (b.l s) (getI G) G.length).flatMap fun p => rankF b f p (nextS b (partsL b (b.l s) (getI G) G.length).length s)
theorem rankM_lt {b : BookD} {G p : List Int} {s : Nat} (hs : s < b.nl) (h : p ∈ partsL b (b.l s) (getI G) G.length) :
    rankM b.nl p.length (nextS b (partsL b (b.l s) (getI G) G.length).length s) < rankM b.nl G.length s := by
  unfold rankM nextS
  have h1 := partsL_le h
  split
  · next hh =>
    have h2 := partsL_lt h hh.1
    have h3 : (p.length + 1) * (b.nl + 1) ≤ G.length * (b.nl + 1) := Nat.mul_le_mul_right _ h2
    have h4 : (p.length + 1) * (b.nl + 1) = p.length * (b.nl + 1) + (b.nl + 1) := Nat.succ_mul _ _
    omega
  · have h3 : p.length * (b.nl + 1) ≤ G.length * (b.nl + 1) := Nat.mul_le_mul_right _ h1
    omega
theorem rankF_fuel (b : BookD) : ∀ f f' G s, rankM b.nl G.length s < f → rankM b.nl G.length s < f' → rankF b f G s = rankF b f' G s
  | 0, _, _, _, h, _ => absurd h (Nat.not_lt_zero _)
  | _ + 1, 0, _, _, _, h => absurd h (Nat.not_lt_zero _)
  | f + 1, f' + 1, G, s, h, h' => by
    unfold rankF
    by_cases hG : G = []
    · rw [if_pos hG, if_pos hG]
    · rw [if_neg hG, if_neg hG]
      by_cases hs : G.length = 1 ∨ b.nl ≤ s
      · rw [if_pos hs, if_pos hs]
      · rw [if_neg hs, if_neg hs, List.flatMap_def, List.flatMap_def]
        congr 1
        refine List.map_congr_left fun p hp => ?_
        have := rankM_lt (b := b) (s := s) (by omega) hp
        exact rankF_fuel b f f' p _ (by omega) (by omega)
/-- the ranking of a group -/
def rankP (b : BookD) (G : List Int) (s : Nat) : List (List Int) := rankF b (rankM b.nl G.length s + 1) G s
theorem rankP_nil (b : BookD) (s : Nat) : rankP b [] s = [] := by
  unfold rankP rankF; rw [if_pos rfl]
theorem rankP_one (b : BookD) {G : List Int} {s : Nat} (hG : G ≠ []) (h : G.length = 1 ∨ b.nl ≤ s) : rankP b G s = [G] := by
  unfold rankP rankF; rw [if_neg hG, if_pos h]
theorem rankP_step (b : BookD) {G : List Int} {s : Nat} (hG : G ≠ []) (h1 : G.length ≠ 1) (hs : s < b.nl) :
    rankP b G s = (partsL b (b.l s) (getI G) G.length).flatMap fun p => rankP b p (nextS b (partsL b (b.l s) (getI G) G.length).length s) := by
  unfold rankP
  conv => lhs; unfold rankF
  rw [if_neg hG, if_neg (by omega), List.flatMap_def, List.flatMap_def]
  congr 1
  refine List.map_congr_left fun p hp => ?_
  exact rankF_fuel b _ _ p _ (rankM_lt hs hp) (Nat.lt_succ_self _)
end Go.Proofs.Yteciobkjfmddcaa
set_option linter.unusedVariables false
namespace Go.Proofs.Yteciobkjfmddcaa
open Go.RowKit

theorem rankP_ind (b : BookD) {P : List Int → Nat → List (List Int) → Prop} (h0 : ∀ s, P [] s []) (h1 : ∀ G s, G ≠ [] → (G.length = 1 ∨ b.nl ≤ s) → P G s [G])
    (h2 : ∀ G s, G ≠ [] → G.length ≠ 1 → s < b.nl → (∀ p ∈ partsL b (b.l s) (getI G) G.length, P p (nextS b (partsL b (b.l s) (getI G) G.length).length s) (rankP b p (nextS b (partsL b (b.l s) (getI G) G.length).length s))) → P G s (rankP b G s)) : ∀ G s, P G s (rankP b G s) := by
  have H : ∀ m G s, rankM b.nl G.length s < m → P G s (rankP b G s) := by
    intro m
    induction m with
    | zero => intro G s h; exact absurd h (Nat.not_lt_zero _)
    | succ m ih =>
      intro G s h
      by_cases hG : G = []
      · subst hG; rw [rankP_nil]; exact h0 s
      by_cases hs : G.length = 1 ∨ b.nl ≤ s
      · rw [rankP_one b hG hs]; exact h1 G s hG hs
      · exact h2 G s hG (by omega) (by omega) fun p hp => ih p _ (by have := rankM_lt (b := b) (G := G) (s := s) (by omega) hp; omega)
  exact fun G s => H _ G s (Nat.lt_succ_self _)
theorem parts_sum (b : BookD) (key : Int) (gg : Nat → Int) (n : Nat) : ((partsL b key gg n).map List.length).sum = n := by
  have h := splitP_sum (bookV b key gg n) gg n
  unfold lenS at h
  unfold partsL
  rw [List.map_map]
  exact h
theorem flat_le {f g : List Int → Nat} : ∀ (L : List (List Int)), (∀ p ∈ L, f p ≤ g p) → (L.map f).sum ≤ (L.map g).sum
  | [], _ => Nat.le_refl _
  | p :: L, h => by
    have h1 := flat_le (f := f) (g := g) L fun q hq => h q (List.mem_cons_of_mem _ hq)
    have h2 := h p (List.mem_cons_self ..)
    simp only [List.map_cons, List.sum_cons]
    omega
theorem rankP_len (b : BookD) : ∀ G s, (rankP b G s).length ≤ G.length := by
  refine rankP_ind b (P := fun G _ L => L.length ≤ G.length) (fun s => by simp) (fun G s hG _ => ?_) fun G s hG h1 hs ih => ?_
  · have := List.length_pos_iff.2 hG
    simp; omega
  · show (rankP b G s).length ≤ G.length
    rw [rankP_step b hG h1 hs, List.length_flatMap]
    refine Nat.le_trans (flat_le (g := List.length) _ fun p hp => ih p hp) ?_
    rw [parts_sum]
    exact Nat.le_refl _
theorem take_flat {α β : Type} (f : α → List β) (L : List α) (k : Nat) : ((L.take k).flatMap f).length ≤ (L.flatMap f).length := by
  conv => rhs; rw [← List.take_append_drop k L, List.flatMap_append, List.length_append]
  omega
theorem take_flat_succ {α β : Type} (f : α → List β) (L : List α) (k : Nat) {x : α} (h : L[k]? = some x) : (L.take (k + 1)).flatMap f = (L.take k).flatMap f ++ f x := by
  obtain ⟨hk, rfl⟩ := List.getElem?_eq_some_iff.1 h
  rw [← List.take_append_getElem hk, List.flatMap_append]
  simp
theorem getI_range (G : List Int) : ((List.range G.length).map fun j => Value.int .i64 (getI G j)) = G.map (Value.int .i64) := by
  apply List.ext_getElem?
  intro j
  rw [List.getElem?_map, List.getElem?_map]
  by_cases hj : j < G.length
  · rw [List.getElem?_range hj, List.getElem?_eq_getElem hj]
    simp [getI, hj]
  · rw [List.getElem?_eq_none (by simp; omega), List.getElem?_eq_none (by omega)]
    rfl
theorem LL.rec {w : World} {B : Nat} {v : Value} {T : List (Value × List Int)} (h : LL w B v T) (hn : T.length ≤ 9223372036854775807) :
    ∃ g, RecRow 1 w v T.length g ∧ (∀ i, i < T.length → (g i).length = 1) ∧ (∀ i, i < T.length → ∀ u ∈ g i, u.oneCell' = true) ∧ flatR g T.length = T.map Prod.fst := by
  refine ⟨fun i => [(T.map Prod.fst).getD i undef], RecRow.of_owns h.1 hn (fun i hi j u hu => ?_) (fun _ _ => by simp), fun _ _ => by simp, fun i hi u hu => ?_, ?_⟩
  · cases j with
    | zero =>
      simp only [List.getElem?_cons_zero, Option.some.injEq] at hu
      subst hu
      rw [Nat.mul_one, Nat.add_zero, List.getD_eq_getElem?_getD, List.getElem?_eq_getElem (by simpa using hi)]
      rfl
    | succ j => simp at hu
  · rw [List.mem_singleton.1 hu, List.getD_eq_getElem?_getD, List.getElem?_eq_getElem (by simpa using hi)]
    simp only [List.getElem_map, Option.getD_some]
    exact one_of_slice (h.2.1 _ (List.getElem_mem hi))
  · unfold flatR
    apply List.ext_getElem?
    intro j
    have e : ∀ n, (List.range n).flatMap (fun i => [(T.map Prod.fst).getD i undef]) = (List.range n).map fun i => (T.map Prod.fst).getD i undef := fun n => by
      induction n with
      | zero => rfl
      | succ n ih => rw [List.range_succ, List.flatMap_append, List.map_append, ih]; simp
    rw [e, List.getElem?_map]
    by_cases hj : j < T.length
    · rw [List.getElem?_range hj]
      simp [hj]
    · rw [List.getElem?_eq_none (by simp; omega), List.getElem?_eq_none (by simp; omega)]
      rfl
theorem LL.nil {w : World} : LL (w.alloc (.cells #[] 22)) w.heap.size (.slice (some ⟨w.heap.size, 0, none⟩) 0 0) [] :=
  ⟨World.ownsRow_lit (e := 22) (size := 1) w #[] 0 (Nat.le_refl _) (by decide) rfl, ⟨(fun x hx => by cases hx), (by unfold ApartL; simp)⟩⟩
theorem LL.one {w : World} {B : Nat} {v : Value} {G : List Int} (h : w.ownsRow B 3 1 v G.length (G.map (Value.int .i64))) (hB : B ≤ w.heap.size) : LL (w.alloc (.cells #[v] 22)) B (.slice (some ⟨w.heap.size, 0, none⟩) 1 1) [(v, G)] := by
  refine ⟨owns_mono (World.ownsRow_lit (e := 22) (size := 1) w #[v] 1 (Nat.le_refl _) (by decide) rfl) hB, fun x hx => ?_, ?_⟩
  · rw [List.mem_singleton.1 hx]
    exact h.alloc _
  · refine List.pairwise_cons.2 ⟨fun z hz => ?_, by simp⟩
    rw [List.mem_singleton.1 hz]
    intro k h1 h2
    have := (h.lt k h2).2
    have h3 : w.heap.size = k := by simpa [Value.ownBlock] using h1
    omega
end Go.Proofs.Yteciobkjfmddcaa
set_option linter.unusedVariables false
namespace Go.Proofs.Yteciobkjfmddcaa
open Go.RowKit

/-- what is ranked: a valid book, a group of existing and different teams, a step -/
def fromP (b : BookD) (n : Nat) (gg : Nat → Int) (z : Int) : Prop := bookP b ∧ teamsP b.nf n gg ∧ 0 ≤ z ∧ ∀ i, i < n → ¬ hasP gg (gg i) i
theorem ListsL.none {w w' : World} (h : Below w.heap.size w w') : ListsL w [] (.returned (.slice none 0 0)) w' :=
  ⟨_, [], rfl, rfl, ⟨⟨rfl, .inl ⟨rfl, rfl⟩⟩, (fun x hx => by cases hx), (by unfold ApartL; simp)⟩, h⟩
/-- all teams of a field -/
def allL (n : Nat) : List Int := valsL (fun i => (i : Int)) n
theorem allL_len (n : Nat) : (allL n).length = n := by unfold allL valsL; simp
theorem allL_get {n i : Nat} (h : i < n) : getI (allL n) i = i := by unfold allL valsL getI; simp [h]
theorem all_from {b : BookD} : fromP b (allL b.nf).length (getI (allL b.nf)) 0 ↔ bookP b := by
  rw [allL_len]
  refine ⟨fun h => h.1, fun h => ⟨h, fun i hi => by rw [allL_get hi]; omega, Int.le_refl _, fun i hi ⟨j, hj, e⟩ => ?_⟩⟩
  rw [allL_get hi, allL_get (by omega)] at e
  omega
/-- the teams of the parts, if each has one -/
def orderL (L : List (List Int)) : List Int := if ∀ p ∈ L, p.length = 1 then L.flatten else []
theorem flat_ones : ∀ (L : List (List Int)), (∀ p ∈ L, p.length = 1) → L.flatten.length = L.length
  | [], _ => rfl
  | p :: L, h => by
    rw [List.flatten_cons, List.length_append, h p (List.mem_cons_self ..), flat_ones L fun q hq => h q (List.mem_cons_of_mem _ hq)]
    simp; omega
theorem LL.kept {w w' : World} {B : Nat} {v : Value} {T : List (Value × List Int)} {row : Option Nat} (h : LL w B v T) (hg : w.grownBy w' row) (h1 : ∀ q, row = some q → Hid (v.ownBlock ≠ some q ∧ ∀ x ∈ T, x.1.ownBlock ≠ some q)) : LL w' B v T := by
  refine ⟨h.1.kept hg ?_, fun x hx => (h.2.1 x hx).kept hg ?_, h.2.2⟩
  · cases hr : row with
    | none => cases hv : v.ownBlock with
      | none => exact .inl rfl
      | some q => exact .inr (by simp)
    | some q => exact .inr fun e => (h1 q hr).out.1 e
  · cases hr : row with
    | none => cases hv : x.1.ownBlock with
      | none => exact .inl rfl
      | some q => exact .inr (by simp)
    | some q => exact .inr fun e => (h1 q hr).out.2 x hx e
theorem IntsL.none {w w' : World} (h : Below w.heap.size w w') : IntsL w [] (.returned (.slice none 0 0)) w' :=
  ⟨_, rfl, ⟨rfl, .inl ⟨rfl, rfl⟩⟩, h⟩
end Go.Proofs.Yteciobkjfmddcaa
set_option linter.unusedVariables false
namespace Go.Proofs.Yteciobkjfmddcaa
open Go.RowKit

/-- what the frame of a proof is told of a slice of integers that came in -/
def IsRow (k : IntKind) (w : World) (a : Option Addr) (len cap : Nat) (zs : List Int) : Prop :=
  (a = none ∧ len = 0 ∧ cap = 0 ∧ zs = []) ∨
  ∃ x, a = some x ∧ len ≤ cap ∧ cap ≤ maxLen ∧ zs.length = cap ∧ (∀ i, i < zs.length → w.cell? (x.add i) = some (.int k (zs.getD i 0))) ∧ ∀ n ∈ zs, (Lit.int k n).wf = true
/-- v is a slice of len bytes that read g in w -/
def ByteRow (w : World) (a : Option Addr) (len : Nat) (g : Nat → Nat) : Prop :=
  0 < len → ∃ b off, a = some ⟨b, off, none⟩ ∧ ∀ i, i < len → w.cell? ⟨b, off + i, none⟩ = some (.int .u8 (g i))
def getN (zs : List Int) (i : Nat) : Nat := (zs.getD i 0).toNat
theorem IsRow.bytes {w : World} {a : Option Addr} {len cap : Nat} {zs : List Int} (h : IsRow .u8 w a len cap zs) : ByteRow w a len (getN zs) ∧ (∀ i, getN zs i ≤ 255) ∧ len ≤ 9223372036854775807 := by
  rcases h with ⟨rfl, rfl, rfl, rfl⟩ | ⟨x, rfl, hl, hm, hz, hc, hw⟩
  · exact ⟨fun h => absurd h (by omega), fun i => by simp [getN], by omega⟩
  · have key : ∀ i, 0 ≤ zs.getD i 0 ∧ zs.getD i 0 ≤ 255 := by
      intro i
      by_cases hi : i < zs.length
      · have := hw zs[i] (List.getElem_mem hi)
        simp [Lit.wf, IntKind.min, IntKind.max, IntKind.signed, IntKind.bits] at this
        simp [List.getD, List.getElem?_eq_getElem hi]; omega
      · simp [List.getD, List.getElem?_eq_none (Nat.le_of_not_lt hi)]
    refine ⟨fun h0 => ?_, fun i => by have := key i; unfold getN; omega, by unfold maxLen at hm; omega⟩
    obtain ⟨b, off, spot⟩ := x
    have hc0 := hc 0 (by omega)
    have hspot : spot = none := by simpa [Addr.add] using World.cell?_spot hc0
    subst hspot
    refine ⟨b, off, rfl, fun i hi => ?_⟩
    have h1 := hc i (by omega)
    have hadd : (⟨b, off, none⟩ : Addr).add i = ⟨b, off + i, none⟩ := by unfold Addr.add; split <;> simp_all
    rw [hadd] at h1
    rw [h1]
    have := key i
    unfold getN
    congr 2
    omega
theorem ByteRow.below {w w' : World} {a : Option Addr} {len B : Nat} {g : Nat → Nat} (h : ByteRow w a len g) (hb : Below B w w') (hB : w.heap.size ≤ B) : ByteRow w' a len g := by
  intro h0
  obtain ⟨b, off, h1, h2⟩ := h h0
  exact ⟨b, off, h1, fun i hi => (hb.cell (p := ⟨b, off + i, none⟩) (Nat.lt_of_lt_of_le (World.block_lt_of_cell? w _ (h2 i hi)) hB)).trans (h2 i hi)⟩

theorem set2 {w : World} {B : Nat} {s x y : Value} {T : TypeId} (z : Value) (h : w.heap[B]? = some (.cells #[s, x, y] T (0, 0))) : (w.setCell ⟨B, 2, none⟩ z).heap[B]? = some (.cells #[s, x, z] T (0, 0)) := by
  rw [heap_setCell_same w B 2 _ _ _ h]; rfl
theorem set1 {w : World} {B : Nat} {s x y : Value} {T : TypeId} (z : Value) (h : w.heap[B]? = some (.cells #[s, x, y] T (0, 0))) : (w.setCell ⟨B, 1, none⟩ z).heap[B]? = some (.cells #[s, z, y] T (0, 0)) := by
  rw [heap_setCell_same w B 1 _ _ _ h]; rfl
theorem grown_set (w : World) (B j : Nat) (z : Value) : w.grownBy (w.setCell ⟨B, j, none⟩ z) (some B) :=
  ⟨rfl, rfl, rfl, by simp, fun k _ hk => heap_setCell_other w ⟨B, j, none⟩ k z (fun e => hk (by simp [e]))⟩
theorem grown_trans {a b c : World} {row : Option Nat} (h : a.grownBy b row) (k : b.grownBy c row) : a.grownBy c row :=
  ⟨k.os.trans h.os, k.tape.trans h.tape, k.output.trans h.output, Nat.le_trans h.size k.size, fun i hi hne => (k.block i (Nat.lt_of_lt_of_le hi h.size) hne).trans (h.block i hi hne)⟩
theorem grown_drewN {a b : World} {row : Option Nat} (h : a.grownBy b row) (q : Nat) : a.grownBy (b.drewN q) row := ⟨h.os, h.tape, h.output, h.size, h.block⟩
theorem grown_refl (a : World) (row : Option Nat) : a.grownBy a row := ⟨rfl, rfl, rfl, Nat.le_refl _, fun _ _ _ => rfl⟩
theorem ByteRow.grown {w w' : World} {a : Option Addr} {len B : Nat} {g : Nat → Nat} (h : ByteRow w a len g) (hg : w.grownBy w' (some B)) (hl : 0 < len → ∀ b off, a = some ⟨b, off, none⟩ → b < B) : ByteRow w' a len g := by
  intro h0
  obtain ⟨b, off, h1, h2⟩ := h h0
  refine ⟨b, off, h1, fun i hi => hg.cell (h2 i hi) ?_⟩
  have := hl h0 b off h1
  intro e
  simp at e; omega
theorem and_mask (z : Int) (m : Nat) (hm : m < 2147483648) : ∃ n : Nat, n ≤ m ∧ bits .and .i64 z (m : Int) = (n : Int) := by
  refine ⟨((BitVec.ofInt 64 z) &&& (BitVec.ofInt 64 (m : Int))).toNat, ?_, ?_⟩
  · rw [BitVec.toNat_and, BitVec.ofInt_natCast, BitVec.toNat_ofNat, Nat.mod_eq_of_lt (by omega)]
    exact Nat.and_le_right
  · have h : ((BitVec.ofInt 64 z) &&& (BitVec.ofInt 64 (m : Int))).toNat ≤ m := by
      rw [BitVec.toNat_and, BitVec.ofInt_natCast, BitVec.toNat_ofNat, Nat.mod_eq_of_lt (by omega)]
      exact Nat.and_le_right
    simp only [bits]
    rw [IntKind.wrap_i64]
    show (((((BitVec.ofInt 64 z) &&& (BitVec.ofInt 64 (m : Int))).toNat : Nat) : Int) + 9223372036854775808) % 18446744073709551616 - 9223372036854775808 = _
    omega
theorem and255 (z : Int) : ∃ n : Nat, n ≤ 255 ∧ bits .and .i64 z 255 = (n : Int) := and_mask z 255 (by decide)

def mtL : Nat → ByteArray
  | 0 => ⟨#[97]⟩
  | 1 => ⟨#[98, 99]⟩
  | 2 => ⟨#[32]⟩
  | 3 => ⟨#[44]⟩
  | _ => ⟨#[120, 49]⟩
theorem mtL_size (i : Nat) : (mtL i).size ≤ 2 := by
  match i with
  | 0 => decide
  | 1 => decide
  | 2 => decide
  | 3 => decide
  | n + 4 => show (2 : Nat) ≤ 2; omega
end Go.Proofs.Yteciobkjfmddcaa
set_option linter.unusedVariables false
namespace Go.Proofs.Yteciobkjfmddcaa
open Go.RowKit

/-- the keys of a drawn ladder, before the last -/
def drawnL (L : List Int) : Prop := L.head? = some 1 ∧ (∀ i, 0 < i → i < L.length → 2 ≤ getI L i ∧ getI L i ≤ 7) ∧ ∀ i j, i < j → j < L.length → getI L i ≠ getI L j
theorem getI_last (L : List Int) (x : Int) : getI (L ++ [x]) L.length = x := by simp [getI]
theorem getI_left (L : List Int) (x : Int) (i : Nat) (h : i < L.length) : getI (L ++ [x]) i = getI L i := by
  simp only [getI, List.getD_eq_getElem?_getD]; rw [List.getElem?_append_left h]
theorem drawnL.push {L : List Int} {x : Int} (h : drawnL L) (hx : 2 ≤ x ∧ x ≤ 7) (hn : ¬ hasP (getI L) x L.length) : drawnL (L ++ [x]) := by
  obtain ⟨h1, h2, h3⟩ := h
  have hl : 0 < L.length := by cases L with
    | nil => simp at h1
    | cons _ _ => simp
  refine ⟨by rw [List.head?_append]; rw [h1]; rfl, fun i h0 hi => ?_, fun i j hij hj => ?_⟩
  · simp only [List.length_append, List.length_cons, List.length_nil] at hi
    by_cases e : i = L.length
    · rw [e, getI_last]; exact hx
    · rw [getI_left _ _ _ (by omega)]; exact h2 i h0 (by omega)
  · simp only [List.length_append, List.length_cons, List.length_nil] at hj
    rw [getI_left _ _ i (by omega)]
    by_cases e : j = L.length
    · rw [e, getI_last]; exact fun he => hn ⟨i, by omega, he⟩
    · rw [getI_left _ _ j (by omega)]; exact h3 i j hij (by omega)
/-- drawn rules -/
def RulesGood (win : Int) (L : List Int) : Prop := (win = 2 ∨ win = 3) ∧ ∃ K, L = K ++ [8] ∧ drawnL K ∧ K.length ≤ 4
theorem World.grownBy_set (w : World) (B j : Nat) (z : Value) : w.grownBy (w.setCell ⟨B, j, none⟩ z) (some B) := grown_set w B j z
theorem grown_to {w0 w w' : World} {B : Nat} (h : w0.grownBy w (some B)) (hb : Below w.heap.size w w') : w0.grownBy w' (some B) :=
  grown_trans h ⟨hb.os, hb.tape, hb.output, hb.size, fun k hk _ => hb.block k hk⟩
section
variable {B : Nat} {a : Option Addr} {len cap : Nat} {g : Nat → Nat} {w0 : World} {D : Nat} {win : Int} {ag : Bool} {L : List Int} {w w' : World}
end
/-- rules have been made -/
def RulesIs (w : World) (e : Ending) (w' : World) : Prop :=
  ∃ v win ag L, e = .returned (.agg #[.int .i64 win, .int .i64 1, .int .i64 0, v, .bool ag]) ∧ RulesGood win L ∧ w'.ownsRow w.heap.size 3 1 v L.length (L.map (Value.int .i64)) ∧ Below w.heap.size w w'
end Go.Proofs.Yteciobkjfmddcaa
set_option linter.unusedVariables false
namespace Go.Proofs.Yteciobkjfmddcaa
open Go.RowKit

def gcells (L : List GameD) : List Value := L.flatMap GameD.cells
theorem gcells_push (L : List GameD) (x : GameD) : gcells (L ++ [x]) = gcells L ++ x.cells := by simp [gcells]
section
variable {B : Nat} {a : Option Addr} {len cap : Nat} {g : Nat → Nat} {w0 : World} {out : Value} {L : List GameD} {D : Nat} {cs : Array Value} {w w' : World}
end
/-- the games drawn so far: those of pairs before (lo, hi), each once; m are open -/
def SeaL (lo hi : Int) (L : List GameD) (m : Nat) : Prop :=
  (∀ t ∈ L, ((t.home < t.away ∧ 0 ≤ t.home ∧ (t.away < hi ∨ (t.away = hi ∧ t.home < lo))) ∨ (t.away < t.home ∧ 0 ≤ t.away ∧ (t.home < hi ∨ (t.home = hi ∧ t.away < lo)))) ∧
    (0 ≤ t.st ∧ t.st ≤ 4) ∧ ((t.st = 1 ∧ (0 ≤ t.hg ∧ t.hg ≤ 3) ∧ (0 ≤ t.ag ∧ t.ag ≤ 3)) ∨ (t.st ≠ 1 ∧ t.hg = 0 ∧ t.ag = 0))) ∧
  L.Pairwise (fun s t => ¬ (s.home = t.home ∧ s.away = t.away) ∧ ¬ (s.home = t.away ∧ s.away = t.home)) ∧ (L.filter fun t => t.st == 0).length = m ∧ (0 < lo ∨ 1 < hi → L ≠ [])
theorem SeaL.next {lo hi : Int} {L : List GameD} {m : Nat} {x : GameD} (h : SeaL lo hi L m) (h0 : 0 ≤ lo) (h1 : lo < hi) (hx : (x.home = lo ∧ x.away = hi) ∨ (x.home = hi ∧ x.away = lo)) (hst : 0 ≤ x.st ∧ x.st ≤ 4)
    (hg : (x.st = 1 ∧ (0 ≤ x.hg ∧ x.hg ≤ 3) ∧ (0 ≤ x.ag ∧ x.ag ≤ 3)) ∨ (x.st ≠ 1 ∧ x.hg = 0 ∧ x.ag = 0)) : SeaL (lo + 1) hi (L ++ [x]) (m + if x.st = 0 then 1 else 0) := by
  obtain ⟨ha, hp, hc, _⟩ := h
  refine ⟨fun t ht => ?_, ?_, ?_, fun _ => by simp⟩
  · rw [List.mem_append, List.mem_singleton] at ht
    rcases ht with ht | rfl
    · obtain ⟨k1, k2, k3⟩ := ha t ht
      exact ⟨by omega, k2, k3⟩
    · exact ⟨by omega, hst, hg⟩
  · rw [List.pairwise_append]
    refine ⟨hp, List.pairwise_singleton _ _, fun s hs t ht => ?_⟩
    rw [List.mem_singleton] at ht
    subst ht
    have := (ha s hs).1
    omega
  · rw [List.filter_append, List.length_append, hc]
    congr 1
    by_cases e : x.st = 0 <;> simp [e]
theorem SeaL.row {hi : Int} {L : List GameD} {m : Nat} (h : SeaL hi hi L m) : SeaL 0 (hi + 1) L m := by
  obtain ⟨ha, hp, hc, hq⟩ := h
  exact ⟨fun t ht => by obtain ⟨k1, k2, k3⟩ := ha t ht; exact ⟨by omega, k2, k3⟩, hp, hc, fun h => hq (.inl (by omega))⟩
def pickG (i : Nat) : Int := match i with | 6 => 2 | 7 => 3 | 8 => 4 | _ => 1
theorem pickG_in (i : Nat) (h : i < 9) : 1 ≤ pickG i ∧ pickG i ≤ 4 := by
  have : i = 0 ∨ i = 1 ∨ i = 2 ∨ i = 3 ∨ i = 4 ∨ i = 5 ∨ i = 6 ∨ i = 7 ∨ i = 8 := by omega
  rcases this with rfl | rfl | rfl | rfl | rfl | rfl | rfl | rfl | rfl <;> decide
end Go.Proofs.Yteciobkjfmddcaa
set_option linter.unusedVariables false
namespace Go.Proofs.Yteciobkjfmddcaa
open Go.RowKit

theorem pick_row (w : World) : IntRow (w.alloc (.cells #[.int .i64 1, .int .i64 1, .int .i64 1, .int .i64 1, .int .i64 1, .int .i64 1, .int .i64 2, .int .i64 3, .int .i64 4] 3)) (.slice (some ⟨w.heap.size, 0, none⟩) 9 9) 9 pickG := by
  refine .inr ⟨w.heap.size, 0, 9, rfl, by omega, by omega, fun i hi => ?_, Nat.le_refl _⟩
  rw [Nat.zero_add, cell_of_row _ w.heap.size i _ _ (0, 0) (heap_alloc_new w _)]
  have : i = 0 ∨ i = 1 ∨ i = 2 ∨ i = 3 ∨ i = 4 ∨ i = 5 ∨ i = 6 ∨ i = 7 ∨ i = 8 := by omega
  rcases this with rfl | rfl | rfl | rfl | rfl | rfl | rfl | rfl | rfl <;> rfl
end Go.Proofs.Yteciobkjfmddcaa
set_option linter.unusedVariables false
namespace Go.Proofs.Yteciobkjfmddcaa
open Go.Lib

theorem decDigits_step (u : Nat) (h : ¬ u < 10) : decDigits u = decDigits (u / 10) ++ [UInt8.ofNat (48 + u % 10)] := by rw [decDigits, dif_neg h]
theorem dig_toNat (d : Nat) (h : d < 10) : (UInt8.ofNat (48 + d)).toNat = 48 + d := by
  rw [UInt8.toNat_ofNat']; omega
theorem decDigits_dig (u : Nat) : ∀ b ∈ decDigits u, 48 ≤ b.toNat ∧ b.toNat ≤ 57 := by
  induction u using Nat.strongRecOn with
  | _ u ih =>
    intro b hb
    by_cases h : u < 10
    · rw [decDigits_one h] at hb
      simp only [List.mem_singleton] at hb
      rw [hb, dig_toNat u h]; omega
    · rw [decDigits_step u h] at hb
      simp only [List.mem_append, List.mem_singleton] at hb
      rcases hb with hb | hb
      · exact ih (u / 10) (by omega) b hb
      · rw [hb, dig_toNat (u % 10) (by omega)]; omega
/-- the number that a row of digits spells -/
def valL (l : List UInt8) : Nat := l.foldl (fun a b => a * 10 + (b.toNat - 48)) 0
theorem valL_nil : valL [] = 0 := rfl
theorem valL_snoc (l : List UInt8) (b : UInt8) : valL (l ++ [b]) = valL l * 10 + (b.toNat - 48) := by simp [valL]
theorem valL_decDigits (u : Nat) : valL (decDigits u) = u := by
  induction u using Nat.strongRecOn with
  | _ u ih =>
    by_cases h : u < 10
    · rw [decDigits_one h]
      show 0 * 10 + ((UInt8.ofNat (48 + u)).toNat - 48) = u
      rw [dig_toNat u h]; omega
    · rw [decDigits_step u h, valL_snoc, ih (u / 10) (by omega), dig_toNat (u % 10) (by omega)]; omega
theorem decDigits_ne (u : Nat) : decDigits u ≠ [] := by
  have h1 := decDigits_length u
  have h2 := nDigits_pos u
  intro h
  rw [h] at h1
  simp at h1; omega
theorem decDigits_cons (u : Nat) : ∃ b r, decDigits u = b :: r ∧ 48 ≤ b.toNat ∧ b.toNat ≤ 57 := by
  cases h : decDigits u with
  | nil => exact absurd h (decDigits_ne u)
  | cons b r => exact ⟨b, r, rfl, decDigits_dig u b (by rw [h]; exact List.mem_cons_self ..)⟩
theorem valL_take_le (l : List UInt8) : ∀ j k, j ≤ k → valL (l.take j) ≤ valL (l.take k) := by
  intro j k hjk
  induction k with
  | zero => obtain rfl : j = 0 := by omega
            exact Nat.le_refl _
  | succ k ih =>
    by_cases h : j = k + 1
    · rw [h]; exact Nat.le_refl _
    · refine Nat.le_trans (ih (by omega)) ?_
      by_cases hk : k < l.length
      · rw [List.take_succ_eq_append_getElem hk, valL_snoc]; omega
      · rw [List.take_of_length_le (by omega), List.take_of_length_le (by omega)]; exact Nat.le_refl _
theorem nDigits_le (u : Nat) (h : u ≤ 9223372036854775808) : nDigits u ≤ 19 := by
  by_cases h19 : nDigits u ≤ 19
  · exact h19
  · exfalso
    have key : ∀ k v : Nat, v < 10 ^ (k + 1) → nDigits v ≤ k + 1 := by
      intro k
      induction k with
      | zero => intro v hv; rw [nDigits_small (by simpa using hv)]; exact Nat.le_refl _
      | succ k ih =>
        intro v hv
        by_cases hs : v < 10
        · rw [nDigits_small hs]; omega
        · rw [nDigits_big hs]
          have := ih (v / 10) (by rw [Nat.pow_succ] at hv; omega)
          omega
    have := key 18 u (by have : (10 : Nat) ^ (18 + 1) = 10000000000000000000 := by decide
                         omega)
    omega

/-- n is an int -/
def isInt (n : Int) : Prop := -9223372036854775808 ≤ n ∧ n ≤ 9223372036854775807
theorem itoa_neg (n : Int) (h : n < 0) : itoa n = 45 :: decDigits n.natAbs := by simp [itoa, h]
theorem itoa_pos (n : Int) (h : ¬ n < 0) : itoa n = decDigits n.toNat := by simp [itoa, h]
theorem itoa_inj {a b : Int} (h : itoa a = itoa b) : a = b := by
  by_cases ha : a < 0
  · by_cases hb : b < 0
    · rw [itoa_neg a ha, itoa_neg b hb] at h
      have h1 := congrArg valL (List.cons.inj h).2
      rw [valL_decDigits, valL_decDigits] at h1
      omega
    · rw [itoa_neg a ha, itoa_pos b hb] at h
      obtain ⟨x, r, hx, h1, h2⟩ := decDigits_cons b.toNat
      rw [hx] at h
      have := congrArg UInt8.toNat (List.cons.inj h).1
      simp at this; omega
  · by_cases hb : b < 0
    · rw [itoa_pos a ha, itoa_neg b hb] at h
      obtain ⟨x, r, hx, h1, h2⟩ := decDigits_cons a.toNat
      rw [hx] at h
      have := congrArg UInt8.toNat (List.cons.inj h).1
      simp at this; omega
    · rw [itoa_pos a ha, itoa_pos b hb] at h
      have h1 := congrArg valL h
      rw [valL_decDigits, valL_decDigits] at h1
      omega
/-- what ParseInt may answer at the bytes l -/
def parsed (l : List UInt8) (v : Int) (ok : Bool) : Prop := if ok = true then isInt v ∧ itoa v = l else v = 0 ∧ ∀ n, isInt n → itoa n ≠ l
theorem parsed_unique {l : List UInt8} {v v' : Int} {b b' : Bool} (h : parsed l v b) (h' : parsed l v' b') : v = v' ∧ b = b' := by
  unfold parsed at h h'
  cases b <;> cases b' <;> simp at h h'
  · exact ⟨by rw [h.1, h'.1], rfl⟩
  · exact absurd h'.2 (h.2 v' h'.1)
  · exact absurd h.2 (h'.2 v h.1)
  · exact ⟨itoa_inj (h.2.trans h'.2.symm), rfl⟩

/-- a canonical numeral of an int without a sign -/
theorem canon_pos {n : Int} {l : List UInt8} (hn : isInt n) (h : itoa n = l) (hl : ∀ r, l ≠ 45 :: r) : l ≠ [] ∧ (∀ b ∈ l, 48 ≤ b.toNat ∧ b.toNat ≤ 57) ∧ l.length ≤ 19 ∧ valL l ≤ 9223372036854775807 ∧ n = valL l := by
  have hp : ¬ n < 0 := fun hp => hl _ (by rw [← h, itoa_neg n hp])
  rw [itoa_pos n hp] at h
  subst h
  have h1 := decDigits_length n.toNat
  have h2 := nDigits_le n.toNat (by unfold isInt at hn; omega)
  refine ⟨decDigits_ne _, decDigits_dig _, by omega, ?_, ?_⟩
  · rw [valL_decDigits]; unfold isInt at hn; omega
  · rw [valL_decDigits]; omega
/-- a canonical numeral of an int with a sign -/
theorem canon_neg {n : Int} {r : List UInt8} (hn : isInt n) (h : itoa n = 45 :: r) : r ≠ [] ∧ (∀ b ∈ r, 48 ≤ b.toNat ∧ b.toNat ≤ 57) ∧ r.length ≤ 19 ∧ valL r ≤ 9223372036854775808 ∧ n = -(valL r : Int) := by
  have hp : n < 0 := by
    by_cases hp : n < 0
    · exact hp
    · rw [itoa_pos n hp] at h
      obtain ⟨x, r', hx, h1, h2⟩ := decDigits_cons n.toNat
      rw [hx] at h
      have := congrArg UInt8.toNat (List.cons.inj h).1
      simp at this; omega
  rw [itoa_neg n hp] at h
  have h := (List.cons.inj h).2
  subst h
  have h1 := decDigits_length n.natAbs
  have h2 := nDigits_le n.natAbs (by unfold isInt at hn; omega)
  refine ⟨decDigits_ne _, decDigits_dig _, by omega, ?_, ?_⟩
  · rw [valL_decDigits]; unfold isInt at hn; omega
  · rw [valL_decDigits]; omega
end Go.Proofs.Yteciobkjfmddcaa
set_option linter.unusedVariables false
namespace Go.Proofs.Yteciobkjfmddcaa
open Go.RowKit
open Go.Sort (grow)

theorem one_byte {P : Program} (w : World) (src dst e : TypeId) (hs : P.underlying src = some (.slice e)) (he : P.underlying e = some (.int .u8)) (hd : P.underlying dst = some .string) (v : Int) :
    (convert src dst (.slice (some ⟨w.heap.size, 0, none⟩) 1 1)).run P (w.alloc (.cells #[.int .u8 v] e)) = .ok (.string ⟨[UInt8.ofNat v.toNat].toArray⟩) (w.alloc (.cells #[.int .u8 v] e)) := by
  have h := run_convert_bytes_arg (P := P) (w.alloc (.cells #[.int .u8 v] e)) src e hs he w.heap.size 0 1 1 [v] rfl (fun i hi => by
    obtain rfl : i = 0 := by omega
    simp) dst hd
  rw [h]
  rfl
theorem one_byte_at {P : Program} (src dst e : TypeId) (hs : P.underlying src = some (.slice e)) (he : P.underlying e = some (.int .u8)) (hd : P.underlying dst = some .string) (v : Int) (B : Nat) (W : World)
    (hc : W.cell? ⟨B, 0, none⟩ = some (.int .u8 v)) :
    (convert src dst (.slice (some ⟨B, 0, none⟩) 1 1)).run P W = .ok (.string ⟨[UInt8.ofNat v.toNat].toArray⟩) W := by
  have h := run_convert_bytes_arg (P := P) W src e hs he B 0 1 1 [v] rfl (fun i hi => by
    obtain rfl : i = 0 := by omega
    simpa using hc) dst hd
  rw [h]
  rfl
theorem kept_cell1 {w w1 : World} {v : Value} {e : TypeId} (b : Below (w.drew.alloc (.cells #[v] e)).heap.size (w.drew.alloc (.cells #[v] e)) w1) : w1.cell? ⟨w.heap.size, 0, none⟩ = some v := by
  rw [b.cell (p := ⟨w.heap.size, 0, none⟩) (by simp)]
  exact World.cell?_alloc_mark w.drew #[v] e (0, 0) 0
theorem kept_cell2 {w w1 : World} {v : Value} {e : TypeId} (b : Below (w.alloc (.cells #[v] e)).drew.heap.size (w.alloc (.cells #[v] e)).drew w1) : w1.cell? ⟨w.heap.size, 0, none⟩ = some v := by
  rw [b.cell (p := ⟨w.heap.size, 0, none⟩) (by simp)]
  exact World.cell?_alloc_mark w #[v] e (0, 0) 0
theorem cats (x y : List UInt8) : (ByteArray.mk x.toArray ++ ByteArray.mk y.toArray) = ByteArray.mk (x ++ y).toArray := ByteArray.mk_append_mk x y

theorem of48 (x : Nat) : UInt8.ofNat (48 + x) = 48 + UInt8.ofNat x := by simp

theorem grow_below (w : World) (k : Nat) (os : Array Obj) : Below w.heap.size w (grow (w.drewN k) os) := by
  refine ⟨rfl, rfl, rfl, by simp [grow], fun i hi => ?_⟩
  show (w.heap ++ os)[i]? = w.heap[i]?
  rw [Array.getElem?_append_left hi]
end Go.Proofs.Yteciobkjfmddcaa
set_option linter.unusedVariables false
namespace Go.Proofs.Yteciobkjfmddcaa
open Go.RowKit

/-- the name of team number i that is made -/
def madeNm (i : Nat) : ByteArray := ⟨#[116]⟩ ++ ⟨(Lib.itoa (i : Int)).toArray⟩
def MadeF (n turn : Nat) (G : Nat → TeamD) (k : Nat) : Prop := ∀ i, i < k → (G i).nm = madeNm i ∧ (0 ≤ (G i).club ∧ (G i).club ≤ 3) ∧ (G i).seed = (((i + turn) % n : Nat) : Int) + 1
section
variable {B : Nat} {a : Option Addr} {len cap : Nat} {g : Nat → Nat} {w0 : World} {u : Value} {j : Nat} {xs : List Value} {w w' : World}
end
/-- a field has been made: n teams that read G -/
def FieldIs (w : World) (n : Nat) (G : Nat → TeamD) (e : Ending) (w' : World) : Prop :=
  ∃ v, e = .returned v ∧ TeamRow w' v n G ∧ Below w.heap.size w w'
def FieldGood (n : Nat) (G : Nat → TeamD) : Prop := (2 ≤ n ∧ n ≤ 6) ∧ (∃ turn, turn < n ∧ MadeF n turn G n) ∧ ∀ i, n ≤ i → G i = ⟨ByteArray.empty, 0, 0⟩
end Go.Proofs.Yteciobkjfmddcaa
set_option linter.unusedVariables false
namespace Go.Proofs.Yteciobkjfmddcaa
open Go.RowKit

section
variable {B : Nat} {a : Option Addr} {len cap : Nat} {g : Nat → Nat} {w0 : World} {D n : Nat} {vf : Value} {xf : List Value} {vl : Value} {LL : List Int} {vg : Value} {LG : List GameD} {w w' : World}
end
section
variable {B : Nat} {a : Option Addr} {len cap : Nat} {g : Nat → Nat} {w0 : World} {D n : Nat} {vf : Value} {xf : List Value} {vl : Value} {LL : List Int} {vg : Value} {LG : List GameD} {win : Int} {ag : Bool} {vfa : Value} {F : List Int} {vta : Value} {T : List Int} {w w' : World}
end
end Go.Proofs.Yteciobkjfmddcaa
set_option linter.unusedVariables false
namespace Go.Proofs.Yteciobkjfmddcaa
open Go.RowKit

theorem owns_drawn {B : Nat} {w w' : World} {base : Nat} {e : TypeId} {size m : Nat} {v : Value} {xs : List Value} (ho : w.ownsRow base e size v m xs) (hB : B < base) (hg : w.grownBy w' (some B)) : w'.ownsRow base e size v m xs :=
  ho.kept hg (by
    cases hv : v.ownBlock with
    | none => exact .inl rfl
    | some k => exact .inr fun e => by have := (ho.lt k hv).1; simp at e; omega)
def pick4 (i : Nat) : Int := if i = 3 then 1 else 0
theorem pick4_row (w : World) : IntRow (w.alloc (.cells #[.int .i64 0, .int .i64 0, .int .i64 0, .int .i64 1] 3)) (.slice (some ⟨w.heap.size, 0, none⟩) 4 4) 4 pick4 := by
  refine .inr ⟨w.heap.size, 0, 4, rfl, by omega, by omega, fun i hi => ?_, Nat.le_refl _⟩
  rw [Nat.zero_add, cell_of_row _ w.heap.size i _ _ (0, 0) (heap_alloc_new w _)]
  have : i = 0 ∨ i = 1 ∨ i = 2 ∨ i = 3 := by omega
  rcases this with rfl | rfl | rfl | rfl <;> rfl
/-- the data of a made book of n teams -/
structure BookI where
  turn : Nat
  field : Nat → TeamD
  win : Int
  ag : Bool
  lad : List Int
  games : List GameD
  opens : Nat
  fair : List Int
  taken : List Int
def BookI.good (n opn : Nat) (b : BookI) : Prop := (b.turn < n ∧ MadeF n b.turn b.field n) ∧ RulesGood b.win b.lad ∧ (SeaL 0 n b.games b.opens ∧ b.opens ≤ opn ∧ b.games.length ≤ 8 * n) ∧
  (b.fair.length = n ∧ ∀ x ∈ b.fair, 0 ≤ x ∧ x ≤ 3) ∧ (b.taken.length = n ∧ ∀ x ∈ b.taken, x = 0 ∨ x = 1)
end Go.Proofs.Yteciobkjfmddcaa
