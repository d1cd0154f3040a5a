/-
  Packed: Lists, Push2, Lists2, SplitBy.
-/
import Derived.Laws.AppendOwnNone
import Derived.OneCell
import Derived.Test.YtakbolkdbpehoaaGreatQ1
import Derived.Test.YtakbolkdbpehoaaGreatQ3
import Derived.Test.YtakbolkdbpehoaaGreatQ6
set_option linter.unusedVariables false
namespace Go.Proofs.YtakbolkdbpehoaaGreat
open Go.RowKit

/-- the list L with u put in at j -/
def gapA {α : Type} (L : List α) (j : Nat) (u : α) : List α := L.take j ++ u :: L.drop j
section
variable {α β : Type} {L : List α} {j : Nat} {u x : α}
theorem gapA_len (h : j ≤ L.length) : (gapA L j u).length = L.length + 1 := by
  unfold gapA; simp; omega
theorem gapA_get {i : Nat} (h : i < j) (hj : j ≤ L.length) : (gapA L j u)[i]? = L[i]? := by
  unfold gapA
  rw [List.getElem?_append_left (by simp; omega), List.getElem?_take_of_lt h]
theorem gapA_set (hj : j ≤ L.length) : (gapA L j u).set j x = gapA L j x := by
  unfold gapA
  rw [List.set_append_right _ _ (by simp; omega)]
  simp [Nat.min_eq_left hj]
theorem gapA_step (h : L[j]? = some x) : gapA L (j + 1) x = gapA L j x := by
  have hj : j < L.length := (List.getElem?_eq_some_iff.1 h).1
  have hx : L[j] = x := (List.getElem?_eq_some_iff.1 h).2
  unfold gapA
  rw [(List.take_append_getElem hj).symm, List.drop_eq_getElem_cons hj, hx]
  simp only [List.append_assoc, List.cons_append, List.nil_append]
theorem gapA_end : gapA L L.length u = L ++ [u] := by
  unfold gapA; simp
theorem gapA_map (f : α → β) : (gapA L j u).map f = gapA (L.map f) j (f u) := by
  unfold gapA; simp
theorem gapA_mem {y : α} (h : y ∈ gapA L j u) : y = u ∨ y ∈ L := by
  unfold gapA at h
  rcases List.mem_append.1 h with h | h
  · exact .inr (List.mem_of_mem_take h)
  · rcases List.mem_cons.1 h with h | h
    · exact .inl h
    · exact .inr (List.mem_of_mem_drop h)
theorem gapA_pairwise {R : α → α → Prop} (hL : L.Pairwise R) (h1 : ∀ y ∈ L, R y u) (h2 : ∀ y ∈ L, R u y) : (gapA L j u).Pairwise R := by
  unfold gapA
  rw [List.pairwise_append, List.pairwise_cons]
  refine ⟨hL.sublist (List.take_sublist _ _), ⟨fun y hy => h2 y (List.mem_of_mem_drop hy), hL.sublist (List.drop_sublist _ _)⟩, fun a ha b hb => ?_⟩
  rcases List.mem_cons.1 hb with rfl | hb
  · exact h1 a (List.mem_of_mem_take ha)
  · have h3 : (L.take j ++ L.drop j).Pairwise R := by rw [List.take_append_drop]; exact hL
    exact (List.pairwise_append.1 h3).2.2 a ha b hb
end
/-- how many at the front have a value above v -/
def leadV {α : Type} (f : α → Int) (v : Int) : List α → Nat
  | [] => 0
  | y :: L => if v < f y then leadV f v L + 1 else 0
section
variable {α : Type} {f : α → Int} {v : Int}
theorem leadV_le (L : List α) : leadV f v L ≤ L.length := by
  induction L with
  | nil => exact Nat.le_refl _
  | cons y L ih => unfold leadV; split <;> simp <;> omega
theorem leadV_lt (L : List α) : ∀ i x, i < leadV f v L → L[i]? = some x → v < f x := by
  induction L with
  | nil => intro i x hi; exact absurd hi (by simp [leadV])
  | cons y L ih =>
    intro i x hi hx
    unfold leadV at hi
    split at hi
    · next h =>
      cases i with
      | zero => simp at hx; rw [← hx]; exact h
      | succ i => exact ih i x (by omega) (by simpa using hx)
    · omega
theorem leadV_ge (L : List α) : ∀ x, L[leadV f v L]? = some x → ¬ v < f x := by
  induction L with
  | nil => intro x h; simp at h
  | cons y L ih =>
    intro x h
    unfold leadV at h
    split at h
    · next hy => exact ih x (by simpa using h)
    · next hy => simp at h; rw [← h]; exact hy
end
/-- groups with their values, highest first: t with the value v put in -/
def insP (v t : Int) : List (Int × List Int) → List (Int × List Int)
  | [] => [(v, [t])]
  | (u, p) :: r => if v < u then (u, p) :: insP v t r else if u = v then (u, p ++ [t]) :: r else (v, [t]) :: (u, p) :: r
theorem insP_new (v t : Int) : ∀ L : List (Int × List Int), (∀ x, L[leadV Prod.fst v L]? = some x → x.1 ≠ v) → insP v t L = gapA L (leadV Prod.fst v L) (v, [t])
  | [], _ => rfl
  | (u, p) :: r, h => by
    unfold insP leadV
    by_cases hu : v < u
    · rw [if_pos hu, if_pos hu, insP_new v t r (fun x hx => h x (by unfold leadV; rw [if_pos hu]; simpa using hx))]
      simp [gapA]
    · rw [if_neg hu, if_neg hu]
      have : u ≠ v := h (u, p) (by unfold leadV; rw [if_neg hu]; rfl)
      rw [if_neg this]
      simp [gapA]
theorem insP_old (v t : Int) : ∀ (L : List (Int × List Int)) (p : List Int), L[leadV Prod.fst v L]? = some (v, p) → insP v t L = L.set (leadV Prod.fst v L) (v, p ++ [t])
  | [], p, h => by simp at h
  | (u, q) :: r, p, h => by
    unfold insP
    unfold leadV at h ⊢
    by_cases hu : v < u
    · rw [if_pos hu] at h ⊢
      rw [if_pos hu, insP_old v t r p (by simpa using h)]
      simp
    · rw [if_neg hu] at h ⊢
      simp only [List.getElem?_cons_zero, Option.some.injEq, Prod.mk.injEq] at h
      obtain ⟨rfl, rfl⟩ := h
      rw [if_neg hu, if_pos rfl]
      simp
/-- the groups of the first k of gg by their values -/
def splitP (V : Nat → Int) (gg : Nat → Int) : Nat → List (Int × List Int)
  | 0 => []
  | k + 1 => insP (V (gg k).toNat) (gg k) (splitP V gg k)
/-- no two of the slices lie in one block -/
def ApartV (v v' : Value) : Prop := ∀ k, v.ownBlock = some k → v'.ownBlock ≠ some k
theorem ApartV.symm {v v' : Value} (h : ApartV v v') : ApartV v' v := fun k h1 h2 => h k h2 h1
def ApartL (l : List Value) : Prop := l.Pairwise ApartV
/-- the slices of T hold its lists, each in a block of its own -/
def OwnT (w : World) (base : Nat) (e : TypeId) (T : List (Int × Value × List Int)) : Prop := ∀ x ∈ T, w.ownsRow base e 1 x.2.1 x.2.2.length (x.2.2.map (Value.int .i64))
theorem OwnT.kept {w w' : World} {base : Nat} {e : TypeId} {T : List (Int × Value × List Int)} {row : Option Nat} (h : OwnT w base e T) (hg : w.grownBy w' row) (hne : ∀ x ∈ T, ∀ k, x.2.1.ownBlock = some k → row ≠ some k) : OwnT w' base e T := fun x hx =>
  (h x hx).kept hg (by
    cases hv : x.2.1.ownBlock with
    | none => exact .inl rfl
    | some k => exact .inr fun e => hne x hx k hv e.symm)
theorem OwnT.below {w w' : World} {base B : Nat} {e : TypeId} {T : List (Int × Value × List Int)} (h : OwnT w base e T) (hb : Below B w w') (hB : w.heap.size ≤ B) : OwnT w' base e T := fun x hx => owns_below (h x hx) hb hB
theorem OwnT.lt {w : World} {base : Nat} {e : TypeId} {T : List (Int × Value × List Int)} (h : OwnT w base e T) {x : Int × Value × List Int} (hx : x ∈ T) {k : Nat} (hk : x.2.1.ownBlock = some k) : base ≤ k ∧ k < w.heap.size := (h x hx).lt k hk
theorem OwnT.mono {w : World} {base base' : Nat} {e : TypeId} {T : List (Int × Value × List Int)} (h : OwnT w base e T) (hb : base' ≤ base) : OwnT w base' e T := fun x hx => owns_mono (h x hx) hb
end Go.Proofs.YtakbolkdbpehoaaGreat
set_option linter.unusedVariables false
namespace Go.Proofs.YtakbolkdbpehoaaGreat
open Go.RowKit

theorem run_append_zero {P : Program} {w : World} (base : Nat) (t ty e : TypeId) (i : TypeInfo) (size : Nat) (ht : P.underlying t = some (.slice e)) (hi : P.info? e = some i)
    (v : Value) (n : Nat) (xs : List Value) (hown : w.ownsRow base e size v n xs) (ad : Option Addr) (c : Nat) :
    (Builtin.append_ #[t, t] ty #[v, .slice ad 0 c]).run P w = .ok v w := by
  rcases ad with _ | ad
  · rcases hown.2 with ⟨rfl, rfl⟩ | ⟨g, cap, cur, rfl, _, _, hnc, _⟩
    · simp [Builtin.append_, run_underlying ht, sizeOf, typeInfo, hi, Builtin.lenOf, Builtin.firstCells]
    · simp [Builtin.append_, run_underlying ht, sizeOf, typeInfo, hi, Builtin.lenOf, Builtin.firstCells, hnc, storeCells]
  · have h0 : Sem.run P (loadCells ad 0) w = .ok #[] w := by simp [loadCells, loadCellsFrom]
    rcases hown.2 with ⟨rfl, rfl⟩ | ⟨g, cap, cur, rfl, _, _, hnc, _⟩
    · simp [Builtin.append_, run_underlying ht, sizeOf, typeInfo, hi, Builtin.lenOf, Builtin.firstCells, h0]
    · simp [Builtin.append_, run_underlying ht, sizeOf, typeInfo, hi, Builtin.lenOf, Builtin.firstCells, hnc, storeCells, h0]
theorem wpList_appendZero {P : Program} {w : World} {ops : Array Oper} {rest : List Oper} {o : Oper} {a : Act} {Q : Exit → Act → World → Prop} (hgd : o.guard = none) (s x : Operand) (t : TypeId)
    (ho : o.op = .call { callee := .builtin .append, args := #[s, x], argTypes := #[t, t] })
    (base : Nat) (e : TypeId) (i : TypeInfo) (size : Nat) (ht : P.underlying t = some (.slice e)) (hi : P.info? e = some i)
    (v : Value) (n : Nat) (xs : List Value) (hs : a.eval s = v) (hown : w.ownsRow base e size v n xs) (ad : Option Addr) (c : Nat) (hx : a.eval x = .slice ad 0 c)
    (h : wpList P ops Q rest (a.put o.dst v) w) : wpList P ops Q (o :: rest) a w := by
  refine wpList_plain hgd fun K hK => ?_
  have hrun := run_append_zero (P := P) (w := w) base t o.type e i size ht hi v n xs hown ad c
  unfold Oper.wp
  simp [execOp, ho, resolve, invoke, builtin, hs, hx, hrun, Result.andThen]
  exact hK _ _ h
/-- the cells of n records, one after another -/
def flatR (g : Nat → List Value) (n : Nat) : List Value := (List.range n).flatMap g
theorem flatR_len (k : Nat) (g : Nat → List Value) (n : Nat) (hk : ∀ i, i < n → (g i).length = k) : (flatR g n).length = n * k := by
  induction n with
  | zero => simp [flatR]
  | succ n ih =>
    have := ih fun i hi => hk i (by omega)
    unfold flatR at this ⊢
    rw [List.range_succ, List.flatMap_append, List.length_append, this]
    simp [hk n (by omega), Nat.succ_mul]
theorem flatR_cells (k : Nat) (g : Nat → List Value) (n : Nat) (hk : ∀ i, i < n → (g i).length = k) : RecCells k n (flatR g n) g := by
  induction n with
  | zero => exact RecCells.nil
  | succ n ih =>
    have h1 := ih fun i hi => hk i (by omega)
    have h2 := flatR_len k g n fun i hi => hk i (by omega)
    have h3 : flatR g (n + 1) = flatR g n ++ g n := by unfold flatR; rw [List.range_succ, List.flatMap_append]; simp
    rw [h3]
    exact h1.push h2 rfl (hk n (by omega))
theorem flatR_get (k : Nat) (g : Nat → List Value) (n : Nat) (hk : ∀ i, i < n → (g i).length = k) (h0 : 0 < k) (j : Nat) (u : Value) (h : (flatR g n)[j]? = some u) :
    j / k < n ∧ (g (j / k))[j % k]? = some u := by
  have hl := flatR_len k g n hk
  have hj : j < n * k := by rw [← hl]; exact (List.getElem?_eq_some_iff.1 h).1
  have hjn : j / k < n := Nat.div_lt_of_lt_mul (by rw [Nat.mul_comm]; exact hj)
  refine ⟨hjn, ?_⟩
  have hm : j % k < (g (j / k)).length := by rw [hk _ hjn]; exact Nat.mod_lt _ h0
  obtain ⟨u', hu'⟩ : ∃ u', (g (j / k))[j % k]? = some u' := ⟨_, List.getElem?_eq_getElem hm⟩
  have := flatR_cells k g n hk (j / k) hjn (j % k) u' hu'
  rw [Nat.mul_comm, Nat.div_add_mod, h] at this
  rw [hu']; exact this.symm
/-- 'append([]T{}, x...)' for a slice x of m records of k cells -/
theorem wpList_cloneR {P : Program} {w : World} {ops : Array Oper} {rest : List Oper} {o : Oper} {a : Act} {Q : Exit → Act → World → Prop} (hgd : o.guard = none) (s x : Operand) (t : TypeId)
    (ho : o.op = .call { callee := .builtin .append, args := #[s, x], argTypes := #[t, t] })
    (e : TypeId) {i : TypeInfo} {z : Value} {k bytes : Nat} (ht : P.underlying t = some (.slice e)) (hi : P.info? e = some i) (hz : i.zero = some z) (hsize : i.size = k) (hby : i.bytes = bytes) (hzs : z.cells.size = k) (hk0 : 0 < k)
    {v : Value} {m : Nat} {g : Nat → List Value} (hs : a.eval s = .slice (some ⟨w.heap.size, 0, none⟩) 0 0) (hx : a.eval x = v) (hrow : RecRow k w v m g) (hgl : ∀ i, i < m → (g i).length = k) (h1 : ∀ i, i < m → ∀ u ∈ g i, u.oneCell' = true)
    (hm : m ≤ 1048576) (hb : bytes ≤ 1048576)
    (h : ∀ vv w', w'.ownsRow w.heap.size e k vv m (flatR g m) → Below w.heap.size w w' → wpList P ops Q rest (a.put o.dst vv) w') : wpList P ops Q (o :: rest) a (w.alloc (.cells #[] e)) := by
  have hown : (w.alloc (.cells #[] e)).ownsRow w.heap.size e k (.slice (some ⟨w.heap.size, 0, none⟩) 0 0) 0 [] := World.ownsRow_lit w #[] 0 (Nat.le_refl _) (by decide) (by simp)
  rcases hrow with ⟨ad, cap, rfl, rfl⟩ | ⟨b, off, c, rfl, h0, _, hc, _⟩
  · exact wpList_appendZero hgd s x t ho w.heap.size e i k ht hi _ 0 [] hs hown ad cap hx (h _ _ (by simpa [flatR] using hown) ((Below.refl _ _).alloc (Nat.le_refl _) _))
  · have hmul : (0 + m) * bytes ≤ 1048576 * 1048576 := Nat.mul_le_mul (by omega) hb
    refine wpList_append_lies _ hgd s x t ho w.heap.size e i z k bytes ht hi hz hsize hby hzs hk0 _ 0 [] hs hown ⟨b, off, none⟩ m c (flatR g m) hx (flatR_len k g m hgl) ?_ ?_ h0 (by unfold maxLen; omega) (by omega) (by simp) _ rfl ?_
    · intro j u hu
      obtain ⟨hj, hv⟩ := flatR_get k g m hgl hk0 j u hu
      have hadd : (⟨b, off, none⟩ : Addr).add j = ⟨b, off + j, none⟩ := by unfold Addr.add; split <;> simp_all
      have hq := (hc _ hj).2 _ u hv
      rw [show off + j / k * k + j % k = off + j by rw [Nat.add_assoc, Nat.mul_comm, Nat.div_add_mod]] at hq
      rw [hadd]
      exact (((Below.refl _ w).alloc (Nat.le_refl _) (.cells #[] e)).cell (p := ⟨b, off + j, none⟩) (hc _ hj).1).trans hq
    · intro u hu
      unfold flatR at hu
      rw [List.mem_flatMap] at hu
      obtain ⟨j, hj, hu⟩ := hu
      exact h1 j (List.mem_range.1 hj) u hu
    · intro gg cap w' ho' hg' hat hlt
      simp only [Nat.zero_add, List.nil_append] at ho' ⊢
      exact h _ w' ho' (((Below.refl _ w).alloc (Nat.le_refl _) _).grown hg' (by simp) (fun k hk => by simp [Value.ownBlock] at hk; omega))
end Go.Proofs.YtakbolkdbpehoaaGreat
set_option linter.unusedVariables false
namespace Go.Proofs.YtakbolkdbpehoaaGreat
open Go.RowKit

theorem pairwise_set {α : Type} {R : α → α → Prop} (hs : ∀ a b, R a b → R b a) : ∀ (l : List α) (i : Nat) (x : α), l.Pairwise R → (∀ j y, j ≠ i → l[j]? = some y → R x y) → (l.set i x).Pairwise R
  | [], _, _, h, _ => by simp
  | y :: l, 0, x, h, hx => by
    rw [List.set_cons_zero, List.pairwise_cons]
    exact ⟨fun z hz => by obtain ⟨j, hj⟩ := List.mem_iff_getElem?.1 hz; exact hx (j + 1) z (by omega) (by simpa using hj), (List.pairwise_cons.1 h).2⟩
  | y :: l, i + 1, x, h, hx => by
    rw [List.set_cons_succ, List.pairwise_cons]
    refine ⟨fun z hz => ?_, pairwise_set hs l i x (List.pairwise_cons.1 h).2 fun j z hj hz => hx (j + 1) z (by omega) (by simpa using hz)⟩
    rcases List.mem_or_eq_of_mem_set hz with hz | rfl
    · exact (List.pairwise_cons.1 h).1 z hz
    · exact hs _ _ (hx 0 y (by omega) rfl)
theorem pairwise_at {α : Type} {R : α → α → Prop} (hs : ∀ a b, R a b → R b a) : ∀ (l : List α) (i j : Nat) (x y : α), l.Pairwise R → l[i]? = some x → l[j]? = some y → i ≠ j → R x y
  | [], _, _, _, _, _, h, _, _ => by simp at h
  | z :: l, 0, 0, _, _, _, _, _, hn => absurd rfl hn
  | z :: l, 0, j + 1, x, y, h, h1, h2, _ => by
    simp only [List.getElem?_cons_zero, Option.some.injEq] at h1
    subst h1
    exact (List.pairwise_cons.1 h).1 y (List.mem_of_getElem? (by simpa using h2))
  | z :: l, i + 1, 0, x, y, h, h1, h2, _ => by
    simp only [List.getElem?_cons_zero, Option.some.injEq] at h2
    subst h2
    exact hs _ _ ((List.pairwise_cons.1 h).1 x (List.mem_of_getElem? (by simpa using h1)))
  | z :: l, i + 1, j + 1, x, y, h, h1, h2, hn => pairwise_at hs l i j x y (List.pairwise_cons.1 h).2 (by simpa using h1) (by simpa using h2) (by omega)
/-- groups under way: the outer slice ov, the values' slice av, the groups with their slices -/
def SplitSt (w : World) (B : Nat) (ov av : Value) (T : List (Int × Value × List Int)) : Prop :=
  w.ownsRow B 24 1 ov T.length (T.map fun x => x.2.1) ∧ w.ownsRow B 3 1 av T.length (T.map fun x => Value.int .i64 x.1) ∧ OwnT w B 3 T ∧ ApartL (ov :: av :: T.map fun x => x.2.1)
theorem SplitSt.below {w w' : World} {B C : Nat} {ov av : Value} {T : List (Int × Value × List Int)} (h : SplitSt w B ov av T) (hb : Below C w w') (hC : w.heap.size ≤ C) : SplitSt w' B ov av T :=
  ⟨owns_below h.1 hb hC, owns_below h.2.1 hb hC, h.2.2.1.below hb hC, h.2.2.2⟩
theorem apart_ne {v : Value} {g : Nat} {n c : Nat} (h : ApartV (.slice (some ⟨g, 0, none⟩) n c) v) : v.ownBlock ≠ some g := h g rfl
/-- an element put behind a group that there is -/
theorem SplitSt.old {w w' : World} {B og oc ld gg m c' : Nat} {av iv : Value} {v t : Int} {p : List Int} {T : List (Int × Value × List Int)}
    (h : SplitSt w B (.slice (some ⟨og, 0, none⟩) T.length oc) av T) (hx : T[ld]? = some (v, iv, p)) (hg : w.grownBy w' iv.ownBlock)
    (ho : w'.ownsRow B 3 1 (.slice (some ⟨gg, 0, none⟩) (p.length + 1) c') (p.length + 1) (p.map (Value.int .i64) ++ [.int .i64 t])) (hat : iv.ownBlock = some gg ∨ w.heap.size ≤ gg) :
    SplitSt (w'.setCell ⟨og, ld, none⟩ (.slice (some ⟨gg, 0, none⟩) (p.length + 1) c')) B (.slice (some ⟨og, 0, none⟩) T.length oc) av (T.set ld (v, .slice (some ⟨gg, 0, none⟩) (p.length + 1) c', p ++ [t])) := by
  obtain ⟨h1, h2, h3, h4⟩ := h
  have hld : ld < T.length := (List.getElem?_eq_some_iff.1 hx).1
  have ha := List.pairwise_cons.1 h4
  have hb := List.pairwise_cons.1 ha.2
  have hm : ∀ x ∈ T, x.2.1 ∈ T.map fun x => x.2.1 := fun x hx => List.mem_map.2 ⟨x, hx, rfl⟩
  have hxm : (v, iv, p) ∈ T := List.mem_of_getElem? hx
  have hoi : ∀ k, iv.ownBlock = some k → og ≠ k := fun k hk e => ha.1 iv (List.mem_cons_of_mem _ (hm _ hxm)) og rfl (by rw [e]; exact hk)
  have hai : ∀ k, iv.ownBlock = some k → av.ownBlock ≠ some k := fun k hk e => hb.1 iv (hm _ hxm) k e hk
  have hoL := h1.lt og rfl
  have hgo : gg ≠ og := by
    rcases hat with h | h
    · exact fun e => hoi gg h e.symm
    · omega
  have hblk : ∀ k, (Value.slice (some ⟨gg, 0, none⟩) (p.length + 1) c').ownBlock = some k → k = gg := fun k hk => by simpa [Value.ownBlock] using hk.symm
  have hao : av.ownBlock ≠ some og := ha.1 av (List.mem_cons_self ..) og rfl
  have hmap : (T.set ld (v, Value.slice (some ⟨gg, 0, none⟩) (p.length + 1) c', p ++ [t])).map (fun x => x.2.1) = (T.map fun x => x.2.1).set ld (.slice (some ⟨gg, 0, none⟩) (p.length + 1) c') := by rw [List.map_set]
  refine ⟨?_, ?_, ?_, ?_⟩
  · rw [hmap, List.length_set]
    exact ((h1.kept hg (.inr (by cases hk : iv.ownBlock with
      | none => simp [Value.ownBlock]
      | some k => have := hoi k hk; simp [Value.ownBlock]; exact this))).stored ld _).1
  · rw [List.length_set]
    have hmap2 : (T.set ld (v, Value.slice (some ⟨gg, 0, none⟩) (p.length + 1) c', p ++ [t])).map (fun x => Value.int .i64 x.1) = T.map fun x => Value.int .i64 x.1 := by
      rw [List.map_set]
      apply List.ext_getElem?
      intro j
      by_cases e : ld = j
      · subst e
        rw [List.getElem?_set_self (by simpa using hld), List.getElem?_map, hx]
        rfl
      · rw [List.getElem?_set_ne e]
    rw [hmap2]
    refine ownsRow_setCell_other (h2.kept hg ?_) hao _
    cases hk : iv.ownBlock with
    | none => cases hk2 : av.ownBlock with
      | none => exact .inl rfl
      | some k2 => exact .inr (by simp)
    | some k => exact .inr fun e => hai k hk e
  · intro x hxs
    obtain ⟨j, hj⟩ := List.mem_iff_getElem?.1 hxs
    by_cases e : ld = j
    · subst e
      rw [List.getElem?_set_self hld, Option.some.injEq] at hj
      subst hj
      refine ownsRow_setCell_other ?_ ?_ _
      · simpa using ho
      · exact fun e => hgo (hblk og e).symm
    · rw [List.getElem?_set_ne e] at hj
      have hxT := List.mem_of_getElem? hj
      refine ownsRow_setCell_other ((h3 x hxT).kept hg ?_) ?_ _
      · have hap := pairwise_at (fun a b => ApartV.symm) _ ld j iv x.2.1 hb.2 (by rw [List.getElem?_map, hx]; rfl) (by rw [List.getElem?_map, hj]; rfl) e
        cases hk : iv.ownBlock with
        | none => cases hk2 : x.2.1.ownBlock with
          | none => exact .inl rfl
          | some k2 => exact .inr (by simp)
        | some k => exact .inr (hap k hk)
      · exact ha.1 x.2.1 (List.mem_cons_of_mem _ (hm x hxT)) og rfl
  · rw [hmap]
    refine List.pairwise_cons.2 ⟨fun z hz => ?_, List.pairwise_cons.2 ⟨fun z hz => ?_, ?_⟩⟩
    · rcases List.mem_cons.1 hz with rfl | hz
      · exact ha.1 _ (List.mem_cons_self ..)
      · rcases List.mem_or_eq_of_mem_set hz with hz | rfl
        · exact ha.1 z (List.mem_cons_of_mem _ hz)
        · exact fun k h1 h2 => hgo ((hblk k h2).symm.trans (by simpa [Value.ownBlock] using h1.symm))
    · rcases List.mem_or_eq_of_mem_set hz with hz | rfl
      · exact hb.1 z hz
      · intro k h1 h2'
        have := hblk k h2'
        subst this
        rcases hat with h | h
        · exact hai k h h1
        · have := (h2.lt k h1).2; omega
    · refine pairwise_set (fun a b => ApartV.symm) _ _ _ hb.2 fun j y hj hy => ?_
      intro k h1 h2'
      have := hblk k h1
      subst this
      rcases hat with h | h
      · exact pairwise_at (fun a b => ApartV.symm) _ ld j iv y hb.2 (by rw [List.getElem?_map, hx]; rfl) hy (by omega) k h h2'
      · rw [List.getElem?_map] at hy
        cases hT : T[j]? with
        | none => rw [hT] at hy; cases hy
        | some z =>
          rw [hT] at hy
          simp only [Option.map_some, Option.some.injEq] at hy
          subst hy
          have := (h3.lt (List.mem_of_getElem? hT) h2').2
          omega
/-- a group moved in: behind the shift, the value and the new group's slice -/
theorem SplitSt.new {w w' : World} {B ga ca go co D ld : Nat} {v t : Int} {T : List (Int × Value × List Int)}
    (h1 : w.ownsRow B 24 1 (.slice (some ⟨go, 0, none⟩) (T.length + 1) co) (T.length + 1) (gapA (T.map fun x => x.2.1) ld (.slice (some ⟨D, 0, none⟩) 1 1)))
    (h2 : w.ownsRow B 3 1 (.slice (some ⟨ga, 0, none⟩) (T.length + 1) ca) (T.length + 1) ((gapA (T.map Prod.fst) ld v).map (Value.int .i64)))
    (h3 : OwnT w B 3 T) (h4 : ApartL (T.map fun x => x.2.1)) (h5 : w.ownsRow B 3 1 (.slice (some ⟨D, 0, none⟩) 1 1) 1 [.int .i64 t])
    (hgo : ∀ x ∈ T, x.2.1.ownBlock ≠ some go) (hga : ∀ x ∈ T, x.2.1.ownBlock ≠ some ga) (hD : ∀ x ∈ T, x.2.1.ownBlock ≠ some D) (hn1 : go ≠ ga) (hn2 : go ≠ D) (hn3 : ga ≠ D) (hld : ld ≤ T.length) :
    SplitSt w B (.slice (some ⟨go, 0, none⟩) (T.length + 1) co) (.slice (some ⟨ga, 0, none⟩) (T.length + 1) ca) (gapA T ld (v, .slice (some ⟨D, 0, none⟩) 1 1, [t])) := by
  have hl : (gapA T ld (v, Value.slice (some ⟨D, 0, none⟩) 1 1, [t])).length = T.length + 1 := gapA_len hld
  have hb : ∀ (g n c k : Nat), (Value.slice (some ⟨g, 0, none⟩) n c).ownBlock = some k → k = g := fun g n c k hk => by simpa [Value.ownBlock] using hk.symm
  have hin : ∀ y ∈ gapA (T.map fun x => x.2.1) ld (Value.slice (some ⟨D, 0, none⟩) 1 1), y = .slice (some ⟨D, 0, none⟩) 1 1 ∨ ∃ x ∈ T, x.2.1 = y := fun y hy => by
    rcases gapA_mem hy with h | h
    · exact .inl h
    · exact .inr (List.mem_map.1 h)
  refine ⟨by rw [hl, gapA_map]; exact h1, ?_, ?_, ?_⟩
  · rw [hl, gapA_map]
    rw [gapA_map, List.map_map] at h2
    exact h2
  · intro x hx
    rcases gapA_mem hx with rfl | hx
    · exact h5
    · exact h3 x hx
  · rw [gapA_map]
    refine List.pairwise_cons.2 ⟨fun z hz => ?_, List.pairwise_cons.2 ⟨fun z hz => ?_, gapA_pairwise h4 (fun y hy => ?_) fun y hy => ?_⟩⟩
    · rcases List.mem_cons.1 hz with rfl | hz
      · intro k e1 e2
        exact hn1 ((hb _ _ _ _ e1).symm.trans (hb _ _ _ _ e2))
      · rcases hin z hz with rfl | ⟨x, hx, rfl⟩
        · intro k e1 e2
          exact hn2 ((hb _ _ _ _ e1).symm.trans (hb _ _ _ _ e2))
        · intro k e1 e2
          have := hb _ _ _ _ e1
          subst this
          exact hgo x hx e2
    · rcases hin z hz with rfl | ⟨x, hx, rfl⟩
      · intro k e1 e2
        exact hn3 ((hb _ _ _ _ e1).symm.trans (hb _ _ _ _ e2))
      · intro k e1 e2
        have := hb _ _ _ _ e1
        subst this
        exact hga x hx e2
    · obtain ⟨x, hx, rfl⟩ := List.mem_map.1 hy
      intro k e1 e2
      have := hb _ _ _ _ e2
      subst this
      exact hD x hx e1
    · obtain ⟨x, hx, rfl⟩ := List.mem_map.1 hy
      intro k e1 e2
      have := hb _ _ _ _ e1
      subst this
      exact hD x hx e2
theorem OwnT.store {w : World} {B : Nat} {e : TypeId} {T : List (Int × Value × List Int)} (h : OwnT w B e T) {a : Addr} (ha : ∀ x ∈ T, x.2.1.ownBlock ≠ some a.block) (u : Value) : OwnT (w.setCell a u) B e T :=
  fun x hx => ownsRow_setCell_other (h x hx) (ha x hx) u
/-- w holds a list of lists of ints: the outer slice v, and the inner ones with what they hold -/
def LL (w : World) (B : Nat) (v : Value) (T : List (Value × List Int)) : Prop :=
  w.ownsRow B 24 1 v T.length (T.map Prod.fst) ∧ (∀ x ∈ T, w.ownsRow B 3 1 x.1 x.2.length (x.2.map (Value.int .i64))) ∧ ApartL (v :: T.map Prod.fst)
theorem LL.below {w w' : World} {B C : Nat} {v : Value} {T : List (Value × List Int)} (h : LL w B v T) (hb : Below C w w') (hC : w.heap.size ≤ C) : LL w' B v T :=
  ⟨owns_below h.1 hb hC, fun x hx => owns_below (h.2.1 x hx) hb hC, h.2.2⟩
theorem LL.mono {w : World} {B B' : Nat} {v : Value} {T : List (Value × List Int)} (h : LL w B v T) (hb : B' ≤ B) : LL w B' v T :=
  ⟨owns_mono h.1 hb, fun x hx => owns_mono (h.2.1 x hx) hb, h.2.2⟩
theorem SplitSt.ll {w : World} {B : Nat} {ov av : Value} {T : List (Int × Value × List Int)} (h : SplitSt w B ov av T) : LL w B ov (T.map Prod.snd) := by
  obtain ⟨h1, _, h3, h4⟩ := h
  refine ⟨by rw [List.length_map, List.map_map]; exact h1, fun x hx => ?_, ?_⟩
  · obtain ⟨y, hy, rfl⟩ := List.mem_map.1 hx
    exact h3 y hy
  · rw [List.map_map]
    have ha := List.pairwise_cons.1 h4
    exact List.pairwise_cons.2 ⟨fun z hz => ha.1 z (List.mem_cons_of_mem _ hz), (List.pairwise_cons.1 ha.2).2⟩
/-- 'append(s, x...)' for a slice s of the call's own and a slice x of m records of k cells -/
theorem wpList_appendR {P : Program} {w : World} {ops : Array Oper} {rest : List Oper} {o : Oper} {a : Act} {Q : Exit → Act → World → Prop} (hgd : o.guard = none) (s x : Operand) (t : TypeId)
    (ho : o.op = .call { callee := .builtin .append, args := #[s, x], argTypes := #[t, t] })
    (base : Nat) (e : TypeId) {i : TypeInfo} {z : Value} {k bytes : Nat} (ht : P.underlying t = some (.slice e)) (hi : P.info? e = some i) (hz : i.zero = some z) (hsize : i.size = k) (hby : i.bytes = bytes) (hzs : z.cells.size = k) (hk0 : 0 < k)
    {v u : Value} {n m : Nat} {xs : List Value} {g : Nat → List Value} (hs : a.eval s = v) (hown : w.ownsRow base e k v n xs) (hx : a.eval x = u) (hrow : RecRow k w u m g) (hgl : ∀ i, i < m → (g i).length = k) (h1 : ∀ i, i < m → ∀ u ∈ g i, u.oneCell' = true)
    (hm : n + m ≤ 1048576) (hb : bytes ≤ 1048576) (hbase : base ≤ w.heap.size)
    (h : ∀ vv w', w'.ownsRow base e k vv (n + m) (xs ++ flatR g m) → w.grownBy w' v.ownBlock → (∀ q, vv.ownBlock = some q → v.ownBlock = some q ∨ w.heap.size ≤ q) → wpList P ops Q rest (a.put o.dst vv) w') : wpList P ops Q (o :: rest) a w := by
  rcases hrow with ⟨ad, cap, rfl, rfl⟩ | ⟨b, off, c, rfl, h0, _, hc, _⟩
  · exact wpList_appendZero hgd s x t ho base e i k ht hi v n xs hs hown ad cap hx (h _ _ (by simpa [flatR] using hown) ⟨rfl, rfl, rfl, Nat.le_refl _, fun _ _ _ => rfl⟩ fun q hq => .inl hq)
  · have hmul : (n + m) * bytes ≤ 1048576 * 1048576 := Nat.mul_le_mul hm hb
    refine wpList_append_lies _ hgd s x t ho base e i z k bytes ht hi hz hsize hby hzs hk0 v n xs hs hown ⟨b, off, none⟩ m c (flatR g m) hx (flatR_len k g m hgl) ?_ ?_ h0 (by unfold maxLen; omega) (by omega) hbase _ rfl ?_
    · intro j u hu
      obtain ⟨hj, hv⟩ := flatR_get k g m hgl hk0 j u hu
      have hadd : (⟨b, off, none⟩ : Addr).add j = ⟨b, off + j, none⟩ := by unfold Addr.add; split <;> simp_all
      have hq := (hc _ hj).2 _ u hv
      rw [show off + j / k * k + j % k = off + j by rw [Nat.add_assoc, Nat.mul_comm, Nat.div_add_mod]] at hq
      rw [hadd]
      exact hq
    · intro u hu
      unfold flatR at hu
      rw [List.mem_flatMap] at hu
      obtain ⟨j, hj, hu⟩ := hu
      exact h1 j (List.mem_range.1 hj) u hu
    · intro gg cap w' ho' hg' hat hlt
      refine h _ w' ho' hg' fun q hq => ?_
      have hq' : gg = q := by simpa [Value.ownBlock] using hq
      subst hq'
      rcases hat with h5 | h5
      · exact .inl h5
      · exact .inr (by omega)
theorem OwnT_nil {w : World} {B : Nat} {e : TypeId} : OwnT w B e [] := fun x hx => by cases hx
theorem one_of_slice {v : Value} {w : World} {base : Nat} {e : TypeId} {size n : Nat} {xs : List Value} (h : w.ownsRow base e size v n xs) : v.oneCell' = true := by
  obtain ⟨a, c, rfl⟩ := owns_form h
  rfl
/-- the rows of a list of lists put behind those of another -/
theorem LL.append {w w0 w' : World} {B B' : Nat} {v v2 vv : Value} {T T2 : List (Value × List Int)} (h : LL w0 B v T) (hw : Below w0.heap.size w0 w) (h2 : LL w B' v2 T2) (hB : B ≤ B') (hB2 : w0.heap.size ≤ B')
    (ho : w'.ownsRow B 24 1 vv (T.length + T2.length) (T.map Prod.fst ++ T2.map Prod.fst)) (hg : w.grownBy w' v.ownBlock) (hat : ∀ q, vv.ownBlock = some q → v.ownBlock = some q ∨ w.heap.size ≤ q) : LL w' B vv (T ++ T2) := by
  have h' := h.below hw (Nat.le_refl _)
  have hA := List.pairwise_cons.1 h.2.2
  have hA2 := List.pairwise_cons.1 h2.2.2
  have k1 : ∀ x ∈ T, v.ownBlock = none ∨ ∀ k, x.1.ownBlock = some k → v.ownBlock ≠ some k := fun x hx => .inr fun k hk e => hA.1 x.1 (List.mem_map.2 ⟨x, hx, rfl⟩) k e hk
  have lt0 : ∀ k, v.ownBlock = some k → k < w0.heap.size := fun k hk => (h.1.lt k hk).2
  refine ⟨by rw [List.length_append, List.map_append]; exact ho, fun x hx => ?_, ?_⟩
  · rcases List.mem_append.1 hx with hx | hx
    · refine (h'.2.1 x hx).kept hg ?_
      cases hk : x.1.ownBlock with
      | none => exact .inl rfl
      | some k => exact .inr fun e => hA.1 x.1 (List.mem_map.2 ⟨x, hx, rfl⟩) k e.symm hk
    · refine owns_mono ((h2.2.1 x hx).kept hg ?_) hB
      cases hk : x.1.ownBlock with
      | none => exact .inl rfl
      | some k =>
        refine .inr fun e => ?_
        have := lt0 k e.symm
        have := ((h2.2.1 x hx).lt k hk).1
        omega
  · rw [List.map_append]
    refine List.pairwise_cons.2 ⟨fun z hz => ?_, List.pairwise_append.2 ⟨hA.2, hA2.2, fun a ha b hb => ?_⟩⟩
    · rcases List.mem_append.1 hz with hz | hz
      · intro k e1 e2
        rcases hat k e1 with h5 | h5
        · exact hA.1 z hz k h5 e2
        · obtain ⟨x, hx, rfl⟩ := List.mem_map.1 hz
          have := ((h'.2.1 x hx).lt k e2).2
          omega
      · intro k e1 e2
        obtain ⟨x, hx, rfl⟩ := List.mem_map.1 hz
        have h6 := (h2.2.1 x hx).lt k e2
        rcases hat k e1 with h5 | h5
        · have := lt0 k h5; omega
        · omega
    · intro k e1 e2
      obtain ⟨x, hx, rfl⟩ := List.mem_map.1 ha
      obtain ⟨y, hy, rfl⟩ := List.mem_map.1 hb
      have := ((h.2.1 x hx).lt k e1).2
      have := ((h2.2.1 y hy).lt k e2).1
      omega
/-- the call makes the lists L in memory of its own -/
def ListsL (w : World) (L : List (List Int)) (e : Ending) (w' : World) : Prop :=
  ∃ v T, e = .returned v ∧ T.map Prod.snd = L ∧ LL w' w.heap.size v T ∧ Below w.heap.size w w'
end Go.Proofs.YtakbolkdbpehoaaGreat
set_option linter.unusedVariables false
namespace Go.Proofs.YtakbolkdbpehoaaGreat
open Go.RowKit

theorem Tryz.infoL : (Tryz.prog.info? 24).map (fun i => (i.zero, i.size, i.bytes)) = some (some (.slice none 0 0), 1, 24) := by kernel_rfl
theorem fresh_ne {w : World} {B : Nat} {e : TypeId} {sz : Nat} {v x : Value} {n : Nat} {xs : List Value} (hx : w.ownsRow B e sz x n xs) (ha : ApartV v x) {g : Nat} (hat : v.ownBlock = some g ∨ w.heap.size ≤ g) : x.ownBlock ≠ some g := fun e1 => by
  rcases hat with h | h
  · exact ha g h e1
  · have := (hx.lt g e1).2; omega
theorem apart_row {v x : Value} (ha : ApartV v x) : ∀ k, x.ownBlock = some k → v.ownBlock ≠ some k := fun k h1 h2 => ha k h2 h1
theorem kept_apart {w w' : World} {B : Nat} {e : TypeId} {sz : Nat} {v x : Value} {n : Nat} {xs : List Value} (hx : w.ownsRow B e sz x n xs) (ha : ApartV v x) (hg : w.grownBy w' v.ownBlock) : w'.ownsRow B e sz x n xs := by
  refine hx.kept hg ?_
  cases hk : x.ownBlock with
  | none => exact .inl rfl
  | some k => exact .inr fun e1 => apart_row ha k hk e1.symm
theorem SplitSt.apart {w : World} {B : Nat} {ov av : Value} {T : List (Int × Value × List Int)} (h : SplitSt w B ov av T) : ApartV ov av ∧ (∀ x ∈ T, ApartV ov x.2.1) ∧ ∀ x ∈ T, ApartV av x.2.1 := by
  have h1 := List.pairwise_cons.1 h.2.2.2
  have h2 := List.pairwise_cons.1 h1.2
  have hm : ∀ x ∈ T, x.2.1 ∈ T.map fun x => x.2.1 := fun x hx => List.mem_map.2 ⟨x, hx, rfl⟩
  exact ⟨h1.1 av (List.mem_cons_self ..), fun x hx => h1.1 _ (List.mem_cons_of_mem _ (hm x hx)), fun x hx => h2.1 _ (hm x hx)⟩
/-- behind the append to the values' slice -/
theorem SplitSt.grow1 {w w' : World} {B ga : Nat} {ov av : Value} {T : List (Int × Value × List Int)} (h : SplitSt w B ov av T) (hg : w.grownBy w' av.ownBlock) (hat : av.ownBlock = some ga ∨ w.heap.size ≤ ga) :
    w'.ownsRow B 24 1 ov T.length (T.map fun x => x.2.1) ∧ OwnT w' B 3 T ∧ (∀ x ∈ T, x.2.1.ownBlock ≠ some ga) ∧ ov.ownBlock ≠ some ga := by
  obtain ⟨a1, a2, a3⟩ := h.apart
  exact ⟨kept_apart h.1 a1.symm hg, fun x hx => kept_apart (h.2.2.1 x hx) (a3 x hx) hg, fun x hx => fresh_ne (h.2.2.1 x hx) (a3 x hx) hat, fresh_ne h.1 a1.symm hat⟩
/-- behind the append to the outer slice -/
theorem SplitSt.grow2 {w0 w w' : World} {B ga ca na go : Nat} {ov av : Value} {T : List (Int × Value × List Int)} {xs : List Value} (h0 : SplitSt w0 B ov av T) (hov : w.ownsRow B 24 1 ov T.length (T.map fun x => x.2.1)) (hT : OwnT w B 3 T)
    (ha : w.ownsRow B 3 1 (.slice (some ⟨ga, 0, none⟩) na ca) na xs) (hn : ov.ownBlock ≠ some ga) (hg : w.grownBy w' ov.ownBlock) (hat : ov.ownBlock = some go ∨ w.heap.size ≤ go) :
    w'.ownsRow B 3 1 (.slice (some ⟨ga, 0, none⟩) na ca) na xs ∧ OwnT w' B 3 T ∧ (∀ x ∈ T, x.2.1.ownBlock ≠ some go) ∧ go ≠ ga := by
  obtain ⟨a1, a2, a3⟩ := h0.apart
  have a4 : ApartV ov (.slice (some ⟨ga, 0, none⟩) na ca) := fun k h1 h2 => hn (by rw [h1]; simpa [Value.ownBlock] using h2.symm)
  refine ⟨kept_apart ha a4 hg, fun x hx => kept_apart (hT x hx) (a2 x hx) hg, fun x hx => fresh_ne (hT x hx) (a2 x hx) hat, fun e => ?_⟩
  exact fresh_ne ha a4 hat (by rw [e]; rfl)
theorem split_len {V : Nat → Int} {gg : Nat → Int} : ∀ k, (splitP V gg k).length ≤ k
  | 0 => Nat.le_refl _
  | k + 1 => by
    have h : ∀ v t (L : List (Int × List Int)), (insP v t L).length ≤ L.length + 1 := fun v t L => by
      induction L with
      | nil => simp [insP]
      | cons y L ih => unfold insP; split <;> (try split) <;> simp <;> omega
    have := h (V (gg k).toNat) (gg k) (splitP V gg k)
    have := split_len (V := V) (gg := gg) k
    show (insP _ _ _).length ≤ _
    omega
theorem split_lens {V : Nat → Int} {gg : Nat → Int} : ∀ k x, x ∈ splitP V gg k → x.2.length ≤ k
  | 0 => fun x hx => by simp [splitP] at hx
  | k + 1 => by
    have h : ∀ v t m (L : List (Int × List Int)), (∀ x ∈ L, x.2.length ≤ m) → ∀ x ∈ insP v t L, x.2.length ≤ m + 1 := fun v t m L => by
      induction L with
      | nil => intro _ x hx; simp [insP] at hx; subst hx; simp
      | cons y L ih =>
        intro h x hx
        have h0 := h y (List.mem_cons_self ..)
        have h1 := fun z hz => h z (List.mem_cons_of_mem y hz)
        unfold insP at hx
        split at hx
        · rcases List.mem_cons.1 hx with rfl | hx
          · exact Nat.le_succ_of_le h0
          · exact ih h1 x hx
        · split at hx
          · rcases List.mem_cons.1 hx with rfl | hx
            · simp; exact h0
            · exact Nat.le_succ_of_le (h1 x hx)
          · rcases List.mem_cons.1 hx with rfl | hx
            · simp
            · rcases List.mem_cons.1 hx with rfl | hx
              · exact Nat.le_succ_of_le h0
              · exact Nat.le_succ_of_le (h1 x hx)
    exact h _ _ k _ (split_lens k)
/-- the data of the groups: values and lists -/
def datT (T : List (Int × Value × List Int)) : List (Int × List Int) := T.map fun x => (x.1, x.2.2)
theorem datT_lead (v : Int) (T : List (Int × Value × List Int)) : leadV Prod.fst v (datT T) = leadV Prod.fst v T := by
  induction T with
  | nil => rfl
  | cons y T ih =>
    show leadV Prod.fst v ((y.1, y.2.2) :: datT T) = _
    unfold leadV
    rw [ih]
theorem datT_get {T : List (Int × Value × List Int)} {j : Nat} {x : Int × Value × List Int} (h : T[j]? = some x) : (datT T)[j]? = some (x.1, x.2.2) := by
  unfold datT; rw [List.getElem?_map, h]; rfl
theorem datT_some {T : List (Int × Value × List Int)} {j : Nat} {x : Int × List Int} (h : (datT T)[j]? = some x) : ∃ iv, T[j]? = some (x.1, iv, x.2) := by
  unfold datT at h
  rw [List.getElem?_map] at h
  cases hT : T[j]? with
  | none => rw [hT] at h; cases h
  | some y => rw [hT] at h; simp only [Option.map_some, Option.some.injEq] at h; subst h; exact ⟨y.2.1, rfl⟩
theorem datT_set (T : List (Int × Value × List Int)) (j : Nat) (v : Int) (iv : Value) (p : List Int) : datT (T.set j (v, iv, p)) = (datT T).set j (v, p) := by
  unfold datT; rw [List.map_set]
theorem datT_gap (T : List (Int × Value × List Int)) (j : Nat) (v : Int) (iv : Value) (p : List Int) : datT (gapA T j (v, iv, p)) = gapA (datT T) j (v, p) := by
  unfold datT; rw [gapA_map]
theorem ints_at {w : World} {B n : Nat} {v : Value} {L : List Int} {j : Nat} {x : Int} (h : w.ownsRow B 3 1 v n (L.map (Value.int .i64))) (hj : L[j]? = some x) :
    ∃ g c, v = .slice (some ⟨g, 0, none⟩) n c ∧ n ≤ c ∧ j < n ∧ w.cell? ⟨g, j, none⟩ = some (.int .i64 x) := by
  have hl := h.1
  have hjl : j < L.length := (List.getElem?_eq_some_iff.1 hj).1
  simp at hl
  rcases h.2 with ⟨_, h0⟩ | ⟨g, cap, cur, rfl, hb, hg, hnc, rest⟩
  · omega
  · refine ⟨g, cap, rfl, hnc, by omega, ?_⟩
    rw [h.cellAt j (by omega), List.getElem?_map, hj]
    rfl
theorem vals_at {w : World} {B n : Nat} {e : TypeId} {v : Value} {L : List Value} {j : Nat} {x : Value} (h : w.ownsRow B e 1 v n L) (hj : L[j]? = some x) :
    ∃ g c, v = .slice (some ⟨g, 0, none⟩) n c ∧ n ≤ c ∧ j < n ∧ w.cell? ⟨g, j, none⟩ = some x := by
  have hl := h.1
  have hjl : j < L.length := (List.getElem?_eq_some_iff.1 hj).1
  rcases h.2 with ⟨_, h0⟩ | ⟨g, cap, cur, rfl, hb, hg, hnc, rest⟩
  · omega
  · refine ⟨g, cap, rfl, hnc, by omega, ?_⟩
    rw [h.cellAt j (by omega), hj]
set_option maxRecDepth 100000 in
set_option maxHeartbeats 2000000 in
theorem l07Split_spec (vf vl vg vfa vta : Value) (b : BookD) (key : Int) (gv : Value) (ng : Nat) (gg : Nat → Int) (w : World) (hp : bookP b) (h : BookRow w vf vl vg vfa vta b) (hgv : IntRow w gv ng gg) (ht : teamsP b.nf ng gg) (hn6 : ng ≤ 1048576) :
    Calls Tryz.prog 54 #[.agg #[vf, .int .i64 b.win, .int .i64 b.draw, .int .i64 b.loss, vl, .bool b.again, vg, vfa, vta], .int .i64 key, gv] w (ListsL w ((splitP (bookV b key gg ng) gg ng).map Prod.snd)) := by
  obtain ⟨i0, hi, hz0, hz1, hz2⟩ := info_parts Tryz.infoI
  obtain ⟨l0, li, lz0, lz1, lz2⟩ := info_parts Tryz.infoL
  obtain ⟨fa, fc, la, lc, ga, gc, qa, qc, ta, tc, rfl, rfl, rfl, rfl, rfl⟩ := h.form
  obtain ⟨xa, xc, rfl, hx64, _⟩ := hgv.form
  have hn8 : b.nf ≤ 8 := by have := hp.1.1; omega
  have C2 := Lib.hid (fun wa h1 h2 => l07Values_spec (.slice fa b.nf fc) (.slice la b.nl lc) (.slice ga b.m gc) (.slice qa b.nfa qc) (.slice ta b.nta tc) b key (.slice xa ng xc) ng gg wa hp h1 h2)
  generalize bookV b key gg ng = V at *
  have HT := Lib.hid ht
  have b0 := (Below.refl w.heap.size w).alloc (Nat.le_refl _) (.cells #[.slice fa b.nf fc, .int .i64 b.win, .int .i64 b.draw, .int .i64 b.loss, .slice la b.nl lc, .bool b.again, .slice ga b.m gc, .slice qa b.nfa qc, .slice ta b.nta tc] 29)
  have BX0 := Lib.hid (BoxN.made (Below.refl (w.alloc (.cells #[.slice fa b.nf fc, .int .i64 b.win, .int .i64 b.draw, .int .i64 b.loss, .slice la b.nl lc, .bool b.again, .slice ga b.m gc, .slice qa b.nfa qc, .slice ta b.nta tc] 29)).heap.size (w.alloc (.cells #[.slice fa b.nf fc, .int .i64 b.win, .int .i64 b.draw, .int .i64 b.loss, .slice la b.nl lc, .bool b.again, .slice ga b.m gc, .slice qa b.nfa qc, .slice ta b.nta tc] 29))) (B := w.heap.size) rfl)
  have BR0 := Lib.hid (h.below b0 (Nat.le_refl _))
  have GR0 := Lib.hid (hgv.below b0 (Nat.le_refl _))
  have HB0 := Lib.hid b0
  clear h b0 hgv hp ht
  have d0 := BX0.out.2 0 _ rfl
  have d1 := BX0.out.2 1 _ rfl
  have d2 := BX0.out.2 2 _ rfl
  have d3 := BX0.out.2 3 _ rfl
  have d4 := BX0.out.2 4 _ rfl
  have d5 := BX0.out.2 5 _ rfl
  have d6 := BX0.out.2 6 _ rfl
  have d7 := BX0.out.2 7 _ rfl
  have d8 := BX0.out.2 8 _ rfl
  go_enter Tryz.func54, Tryz.ntmps54
  go_wp2_with fail
  refine (C2.out _ BR0.out GR0.out).mono ?_
  rintro e w1 ⟨vv, rfl, ho1, b1⟩
  have hlen : (valsL V b.nf).length = b.nf := by unfold valsL; simp
  rw [hlen] at ho1
  obtain ⟨va, vc, hvf⟩ := owns_form ho1
  subst hvf
  have GR1 := Lib.hid (GR0.out.below b1 (Nat.le_refl _))
  have HE1 := Lib.hid (HB0.out.trans (b1.mono HB0.out.size))
  have HV1 := Lib.hid ho1
  have hD1 : w.heap.size ≤ w1.heap.size := HE1.out.size
  clear d0 d1 d2 d3 d4 d5 d6 d7 d8 BX0 BR0 GR0 HB0 b1 ho1 hlen C2
  have b2 := ((Below.refl w1.heap.size w1).alloc (Nat.le_refl _) (.cells #[] 24)).alloc (by simp) (.cells #[] 3)
  have o2 := World.ownsRow_lit (e := 24) (size := 1) w1 #[] 0 (Nat.le_refl _) (by decide) rfl
  have o3 := World.ownsRow_lit (e := 3) (size := 1) (w1.alloc (.cells #[] 24)) #[] 0 (Nat.le_refl _) (by decide) rfl
  have es : (w1.alloc (.cells #[] 24)).heap.size = w1.heap.size + 1 := by simp
  rw [es] at o3
  have SS0 : Hid (SplitSt ((w1.alloc (.cells #[] 24)).alloc (.cells #[] 3)) w1.heap.size (.slice (some ⟨w1.heap.size, 0, none⟩) 0 0) (.slice (some ⟨w1.heap.size + 1, 0, none⟩) 0 0) []) := by
    refine ⟨?_, owns_mono o3 (by omega), OwnT_nil, ?_⟩
    · exact owns_below o2 ((Below.refl _ _).alloc (Nat.le_refl _) _) (Nat.le_refl _)
    · refine List.pairwise_cons.2 ⟨fun z hz => ?_, by simp⟩
      simp at hz
      subst hz
      intro k h1 h2
      simp [Value.ownBlock] at h1 h2
      omega
  have HB2 := Lib.hid b2
  clear o2 o3 es b2
  obtain ⟨D, hD⟩ : ∃ D, w1.heap.size = D := ⟨_, rfl⟩
  rw [hD] at SS0 HB2
  have HD := Lib.hid hD
  go_wp2
  clear hD
  go_loopw [8, 9, 23] (fun ov av iv wr => ∃ (k : Nat) (T : List (Int × Value × List Int)), k ≤ ng ∧ iv = .int .i64 k ∧ Hid (datT T = splitP V gg k) ∧ T.length ≤ k ∧ Hid (SplitSt wr D ov av T) ∧ Hid (Below D w1 wr)) (fun _ _ iv _ => ng - (intOf iv).toNat)
  case atStart => exact ⟨0, [], Nat.zero_le _, rfl, rfl, Nat.zero_le _, SS0, HB2⟩
  case round =>
    clear SS0 HB2
    obtain ⟨k, T, hk, rfl, hT, hTk, SS, HB⟩ := hrel
    obtain ⟨oa, oc, hout⟩ := owns_form SS.out.1
    obtain ⟨aa, ac, hat⟩ := owns_form SS.out.2.1
    subst hout hat
    by_cases hlt : k < ng
    · obtain ⟨gb, gof, rfl, hcx, u1⟩ := int_at (GR1.out.below HB.out (Nat.le_of_eq HD.out)) hlt
      have hx := HT.out k hlt
      have HK : Hid (splitP V gg (k + 1) = insP (V (gg k).toNat) (gg k) (splitP V gg k)) := rfl
      have hlt' : (k : Int) < ng := by omega
      generalize gg k = x at *
      obtain ⟨tn, rfl⟩ : ∃ tn : Nat, x = tn := ⟨x.toNat, by omega⟩
      have ht2 : tn < b.nf := by omega
      have ht3 : (tn : Int) < b.nf := by omega
      obtain ⟨vb, vcap, hvv, hvc, _, cv⟩ := ints_at (x := V tn) (j := tn) HV1.out (by unfold valsL; rw [List.getElem?_map, List.getElem?_range ht2]; rfl)
      simp only [Value.slice.injEq, true_and] at hvv
      obtain ⟨rfl, rfl⟩ := hvv
      have cw : wr.cell? ⟨vb, tn, none⟩ = some (.int .i64 (V tn)) := (HB.out.cell (p := ⟨vb, tn, none⟩) (by have := World.block_lt_of_cell? w1 _ cv; have := HD.out; show vb < D; simp at *; omega)).trans cv
      have HK2 : Hid (splitP V gg (k + 1) = insP (V tn) tn (datT T)) := HK.out.trans (by rw [hT.out]; simp)
      have HLS : Hid (∀ x ∈ T, x.2.2.length ≤ k) := fun x hx => split_lens (V := V) (gg := gg) k (x.1, x.2.2) (by rw [← hT.out]; exact List.mem_map.2 ⟨x, hx, rfl⟩)
      clear cv HK hT
      generalize V tn = v at *
      obtain ⟨ld, hld⟩ : ∃ ld, ld = leadV Prod.fst v T := ⟨_, rfl⟩
      have hle : ld ≤ T.length := by rw [hld]; exact leadV_le T
      have HLT : Hid (∀ i y, i < ld → T[i]? = some y → v < y.1) := by rw [hld]; exact leadV_lt T
      have HGE : Hid (∀ y, T[ld]? = some y → ¬ v < y.1) := by rw [hld]; exact leadV_ge T
      have HLD := Lib.hid hld
      clear hld hx ht2
      go_wp2
      clear u1 cw
      obtain ⟨wo, rfl⟩ : ∃ wo : World, wo = wr := ⟨_, rfl⟩
      go_loopw [13] (fun at_ wr => ∃ j : Nat, j ≤ ld ∧ at_ = .int .i64 j ∧ Hid (SplitSt wr D (.slice oa T.length oc) (.slice aa T.length ac) T) ∧ Hid (Below D w1 wr)) (fun at_ _ => ld - (intOf at_).toNat)
      case atStart => exact ⟨0, Nat.zero_le _, rfl, SS, HB⟩
      case round =>
        clear SS HB
        obtain ⟨j, hj, rfl, SS, HB⟩ := hrel
        have hT64 : T.length ≤ 1048576 := by omega
        by_cases hjl : j < ld
        · obtain ⟨y, hy⟩ : ∃ y, T[j]? = some y := ⟨_, List.getElem?_eq_getElem (by omega)⟩
          have h1 := HLT.out j y hjl hy
          obtain ⟨ag, acap, he, hcap, hjT, ca⟩ := vals_at (x := .int .i64 y.1) (j := j) SS.out.2.1 (by rw [List.getElem?_map, hy]; rfl)
          simp only [Value.slice.injEq, true_and] at he
          obtain ⟨rfl, rfl⟩ := he
          clear hy HK2
          generalize y.1 = u at *
          have g1 : decide ((j : Int) < (T.length : Int)) = true := decide_eq_true (by omega)
          have g2 : decide (j < T.length) = true := decide_eq_true hjT
          have g3 : decide (v < u) = true := decide_eq_true h1
          clear h1 HLT HGE HLD
          go_wp2
          go_roundw
          case rel => exact ⟨j + 1, by omega, by go_num, SS, HB⟩
          case measure => simp [intOf]; omega
        · have hjd : j = ld := by omega
          subst hjd
          by_cases hdup : ∃ iv p, T[j]? = some (v, iv, p)
          · obtain ⟨iv, p, hy⟩ := hdup
            have HINS : Hid (∀ iv', splitP V gg (k + 1) = datT (T.set j (v, iv', p ++ [(tn : Int)]))) := fun iv' => by
              rw [HK2.out, datT_set, insP_old v tn (datT T) p (by rw [datT_lead, ← HLD.out]; exact datT_get hy), datT_lead, ← HLD.out]
            have hpl := HLS.out _ (List.mem_of_getElem? hy)
            simp only at hpl
            obtain ⟨ag, acap, he, hcap, hjT, ca⟩ := vals_at (x := .int .i64 v) (j := j) SS.out.2.1 (by rw [List.getElem?_map, hy]; rfl)
            simp only [Value.slice.injEq, true_and] at he
            obtain ⟨rfl, rfl⟩ := he
            obtain ⟨og, ocap, he, hocap, _, co⟩ := vals_at (x := iv) (j := j) SS.out.1 (by rw [List.getElem?_map, hy]; rfl)
            simp only [Value.slice.injEq, true_and] at he
            obtain ⟨rfl, rfl⟩ := he
            have hiv := SS.out.2.2.1 _ (List.mem_of_getElem? hy)
            have hapo := SS.out.apart.2.1 _ (List.mem_of_getElem? hy)
            obtain ⟨ia, ic, hif⟩ := owns_form hiv
            simp only at hif hiv hapo
            subst hif
            have HAPO := Lib.hid hapo
            have HIV := Lib.hid hiv
            have HY := Lib.hid hy
            have g1 : decide ((j : Int) < (T.length : Int)) = true := decide_eq_true (by omega)
            have g2 : decide (j < T.length) = true := decide_eq_true hjT
            have g3 : decide (v < v) = false := decide_eq_false (by omega)
            have hsz : D ≤ wr.heap.size := by have h7 := HB.out.size; have h8 := HD.out; omega
            clear hiv hy hapo HLT HGE HLD HK2 HLS
            go_wp2_with (at_builtin; refine wpList_pushL rfl (.tmp 62) (.tmp 64) 24 rfl D 3 Tryz.underlying24 hi hz0 hz1 hz2 rfl (by decide) [.int .i64 tn] rfl (by intro u hu; simp at hu; subst hu; rfl) rfl (by first | rfl | (show Value.slice (some ⟨_, 0, none⟩) 1 1 = _; simp)) HIV.out (by unfold maxLen; omega) (by omega) hsz ?_; intro g5 c5 w5 o5 gr5 at5 lt5; have K5 := Lib.hid (kept_apart SS.out.1 HAPO.out.symm gr5); have hcs := K5.out.cellAt j (by simp; omega); have hfr := K5.out.frozenAt j; obtain ⟨us, hus⟩ := owns_some K5.out j hjT; rw [hus] at hcs; have HG5 := Lib.hid gr5; have HO5 := Lib.hid o5; have HA5 := Lib.hid at5; clear gr5 o5 at5 hus)
            go_roundw
            case rel => exact ⟨k + 1, T.set j (v, .slice (some ⟨g5, 0, none⟩) (p.length + 1) c5, p ++ [(tn : Int)]), by omega, by go_num, (HINS.out _).symm, by rw [List.length_set]; omega, SplitSt.old (m := 0) SS.out HY.out HG5.out HO5.out HA5.out, (HB.out.grown HG5.out hsz (fun q hq => (HIV.out.lt q hq).1)).setCell (SS.out.1.lt og rfl).1 _⟩
            case measure => simp [intOf]; omega
          · have HINS : Hid (∀ iv', splitP V gg (k + 1) = datT (gapA T j (v, iv', [(tn : Int)]))) := fun iv' => by
              rw [HK2.out, datT_gap, insP_new v tn (datT T) (fun x hx e => by
                rw [datT_lead, ← HLD.out] at hx
                obtain ⟨iv, h⟩ := datT_some hx
                exact hdup ⟨iv, x.2, by rw [h, e]⟩), datT_lead, ← HLD.out]
            by_cases hjT : j < T.length
            · obtain ⟨y, hy⟩ : ∃ y, T[j]? = some y := ⟨_, List.getElem?_eq_getElem hjT⟩
              have h1 := HGE.out y hy
              have h2 : y.1 ≠ v := fun e => hdup ⟨y.2.1, y.2.2, by rw [hy, ← e]⟩
              obtain ⟨ag, acap, he, hcap, _, ca⟩ := vals_at (x := .int .i64 y.1) (j := j) SS.out.2.1 (by rw [List.getElem?_map, hy]; rfl)
              simp only [Value.slice.injEq, true_and] at he
              obtain ⟨rfl, rfl⟩ := he
              clear hy
              generalize y.1 = yu at *
              have g1 : decide ((j : Int) < (T.length : Int)) = true := decide_eq_true (by omega)
              have g2 : decide (j < T.length) = true := decide_eq_true hjT
              have g3 : decide (v < yu) = false := decide_eq_false (by omega)
              have g4 : (yu == v) = false := beq_eq_false_iff_ne.2 h2
              clear h1 h2
              clear HLT HGE HLD HK2 HLS hdup
              have hsz : D ≤ wr.heap.size := by have h7 := HB.out.size; have h8 := HD.out; omega
              go_wp2_with (first | (at_builtin; refine wpList_pushL rfl (.tmp 67) (.tmp 68) 24 rfl D 3 Tryz.underlying24 hi hz0 hz1 hz2 rfl (by decide) [.int .i64 0] rfl (by intro u hu; simp at hu; subst hu; rfl) rfl (by first | rfl | (show Value.slice (some ⟨_, 0, none⟩) 1 1 = _; simp)) SS.out.2.1 (by unfold maxLen; omega) (by omega) hsz ?_; intro g5 c5 w5 o5 gr5 at5 lt5; have G1 := Lib.hid (SS.out.grow1 gr5 at5); have O5 := Lib.hid o5; have HB5 := Lib.hid (HB.out.grown gr5 hsz (fun q hq => (SS.out.2.1.lt q hq).1)); have hsz5 : D ≤ w5.heap.size := (by have h7 := HB5.out.size; have h8 := HD.out; omega); clear gr5 at5 o5) | (at_builtin; refine wpList_pushL rfl (.tmp 70) (.tmp 71) 34 rfl D 24 Tryz.underlying34 li lz0 lz1 lz2 rfl (by decide) [.slice none 0 0] rfl (by intro u hu; simp at hu; subst hu; rfl) rfl (by first | rfl | (show Value.slice (some ⟨_, 0, none⟩) 1 1 = _; simp)) G1.out.1 (by unfold maxLen; omega) (by omega) hsz5 ?_; intro g6 c6 w6 o6 gr6 at6 lt6; have G2 := Lib.hid (SS.out.grow2 G1.out.1 G1.out.2.1 O5.out G1.out.2.2.2 gr6 at6); have O6 := Lib.hid o6; have HB6 := Lib.hid (HB5.out.grown gr6 hsz5 (fun q hq => (G1.out.1.lt q hq).1)); clear gr6 at6 o6))
              have HNT := Lib.hid G2.out.2.2.1
              have HNA := Lib.hid G1.out.2.2.1
              have hn1 : g6 ≠ g5 := G2.out.2.2.2
              have hn2 : g5 ≠ g6 := hn1.symm
              have HAP : Hid (ApartL (T.map fun x => x.2.1)) := (List.pairwise_cons.1 (List.pairwise_cons.1 SS.out.2.2.2).2).2
              have RO : Hid (w6.ownsRow D 24 1 (.slice (some ⟨g6, 0, none⟩) (T.length + 1) c6) (T.length + 1) (gapA (T.map fun x => x.2.1) T.length (.slice none 0 0))) := by
                have e1 := gapA_end (L := T.map fun x => x.2.1) (u := Value.slice none 0 0)
                rw [List.length_map] at e1
                rw [e1]
                exact O6.out
              have RA : Hid (w6.ownsRow D 3 1 (.slice (some ⟨g5, 0, none⟩) (T.length + 1) c5) (T.length + 1) ((gapA (T.map Prod.fst) T.length 0).map (Value.int .i64))) := by
                have e1 := gapA_end (L := T.map Prod.fst) (u := (0 : Int))
                rw [List.length_map] at e1
                rw [e1, List.map_append, List.map_map]
                exact G2.out.1
              have RT := Lib.hid G2.out.2.1
              clear G1 G2 O5 O6 HB5 SS HB lt5 lt6
              go_loopw [14] (fun iv wr => ∃ (i : Nat) (u : Int) (uv : Value), j ≤ i ∧ i ≤ T.length ∧ iv = .int .i64 i ∧ Hid (wr.ownsRow D 24 1 (.slice (some ⟨g6, 0, none⟩) (T.length + 1) c6) (T.length + 1) (gapA (T.map fun x => x.2.1) i uv)) ∧ Hid (wr.ownsRow D 3 1 (.slice (some ⟨g5, 0, none⟩) (T.length + 1) c5) (T.length + 1) ((gapA (T.map Prod.fst) i u).map (Value.int .i64))) ∧ Hid (OwnT wr D 3 T) ∧ Hid (Below D w1 wr)) (fun iv _ => (intOf iv).toNat)
              case atStart => exact ⟨T.length, 0, .slice none 0 0, by omega, Nat.le_refl _, by go_num, RO, RA, RT, HB6⟩
              case round =>
                clear RO RA RT HB6
                obtain ⟨i, u, uv, hji, hiT, rfl, RO, RA, RT, HB⟩ := hrel
                have hsz7 : D ≤ wr.heap.size := by have h7 := HB.out.size; have h8 := HD.out; omega
                have hD5 : D ≤ g5 := (RA.out.lt g5 rfl).1
                have hD6 : D ≤ g6 := (RO.out.lt g6 rfl).1
                have hl5 : g5 < wr.heap.size := (RA.out.lt g5 rfl).2
                have hl6 : g6 < wr.heap.size := (RO.out.lt g6 rfl).2
                by_cases hij : j < i
                · obtain ⟨i', rfl⟩ : ∃ i', i = i' + 1 := ⟨i - 1, by omega⟩
                  obtain ⟨y, hy⟩ : ∃ y, T[i']? = some y := ⟨_, List.getElem?_eq_getElem (by omega)⟩
                  have ly1 : (T.map Prod.fst)[i']? = some y.1 := by rw [List.getElem?_map, hy]; rfl
                  have ly2 : (T.map fun x => x.2.1)[i']? = some y.2.1 := by rw [List.getElem?_map, hy]; rfl
                  have c1 := owns_cell RA.out i' (by omega) (u := .int .i64 y.1) (Lib.hid (by rw [List.getElem?_map, gapA_get (by omega) (by simp; omega), ly1]; rfl))
                  have c2 := owns_cell RO.out i' (by omega) (u := y.2.1) (Lib.hid (by rw [gapA_get (by omega) (by simp; omega), ly2]))
                  obtain ⟨s1, hs1⟩ := owns_some RA.out (i' + 1) (by omega)
                  obtain ⟨s2, hs2⟩ := owns_some RO.out (i' + 1) (by omega)
                  have c3 := owns_cell RA.out (i' + 1) (by omega) (Lib.hid hs1)
                  have c4 := owns_cell RO.out (i' + 1) (by omega) (Lib.hid hs2)
                  have f3 := RA.out.frozenAt (i' + 1)
                  have f4 := RO.out.frozenAt (i' + 1)
                  have F1 : Hid (((gapA (T.map Prod.fst) (i' + 1) u).map (Value.int .i64)).set (i' + 1) (.int .i64 y.1) = (gapA (T.map Prod.fst) i' y.1).map (Value.int .i64)) := by
                    show _ = _
                    rw [← List.map_set, gapA_set (by simp; omega), gapA_step ly1]
                  have F2 : Hid ((gapA (T.map fun x => x.2.1) (i' + 1) uv).set (i' + 1) y.2.1 = gapA (T.map fun x => x.2.1) i' y.2.1) := by
                    show _ = _
                    rw [gapA_set (by simp; omega), gapA_step ly2]
                  obtain ⟨ya, yc, hyf⟩ := owns_form (RT.out y (List.mem_of_getElem? hy))
                  generalize y.2.1 = yv at *
                  generalize y.1 = yi at *
                  subst hyf
                  clear hs1 hs2 ly1 ly2 hy
                  go_wp2
                  go_roundw
                  case rel => exact ⟨i', yi, _, by omega, by omega, by go_num, Lib.hid (by rw [← F2.out]; exact ((ownsRow_setCell_other RO.out (by simpa [Value.ownBlock] using hn1) _).stored (i' + 1) _).1), Lib.hid (by rw [← F1.out]; exact ownsRow_setCell_other (RA.out.stored (i' + 1) _).1 (by simpa [Value.ownBlock] using hn2) _), Lib.hid ((RT.out.store (a := ⟨g5, i' + 1, none⟩) HNA.out _).store (a := ⟨g6, i' + 1, none⟩) HNT.out _), Lib.hid ((HB.out.setCell hD5 _).setCell hD6 _)⟩
                  case measure => simp [intOf]
                · have hij' : j = i := by omega
                  subst hij'
                  obtain ⟨s1, hs1⟩ := owns_some RA.out j (by omega)
                  obtain ⟨s2, hs2⟩ := owns_some RO.out j (by omega)
                  have c3 := owns_cell RA.out j (by omega) (Lib.hid hs1)
                  have c4 := owns_cell RO.out j (by omega) (Lib.hid hs2)
                  have f3 := RA.out.frozenAt j
                  have f4 := RO.out.frozenAt j
                  have F1 : Hid (((gapA (T.map Prod.fst) j u).map (Value.int .i64)).set j (.int .i64 v) = (gapA (T.map Prod.fst) j v).map (Value.int .i64)) := by
                    show _ = _
                    rw [← List.map_set, gapA_set (by simp; omega)]
                  have F2 : Hid (∀ nv, (gapA (T.map fun x => x.2.1) j uv).set j nv = gapA (T.map fun x => x.2.1) j nv) := fun nv => by
                    rw [gapA_set (by simp; omega)]
                  clear hs1 hs2
                  go_wp2
                  go_roundw
                  case rel =>
                    refine ⟨k + 1, gapA T j (v, .slice (some ⟨wr.heap.size, 0, none⟩) 1 1, [(tn : Int)]), by omega, by go_num, (HINS.out _).symm, by rw [gapA_len hiT]; omega, SplitSt.new (w' := w) (D := wr.heap.size) ?_ ?_ ?_ HAP.out ?_ HNT.out HNA.out (fun x hx e => by have := (RT.out.lt hx e).2; omega) hn1 (by omega) (by omega) hiT, ?_⟩
                    · rw [← F2.out]
                      exact ((ownsRow_setCell_other RO.out (by simpa [Value.ownBlock] using hn1) _).stored j _).1.alloc _
                    · rw [← F1.out]
                      exact (ownsRow_setCell_other (RA.out.stored j _).1 (by simpa [Value.ownBlock] using hn2) _).alloc _
                    · exact fun x hx => (((RT.out.store (a := ⟨g5, j, none⟩) HNA.out _).store (a := ⟨g6, j, none⟩) HNT.out _) x hx).alloc _
                    · have o9 := World.ownsRow_lit (e := 3) (size := 1) ((wr.setCell ⟨g5, j, none⟩ (.int .i64 v)).setCell ⟨g6, j, none⟩ (.slice (some ⟨wr.heap.size, 0, none⟩) 1 1)) #[.int .i64 tn] 1 (Nat.le_refl _) (by decide) rfl
                      have e9 : ((wr.setCell ⟨g5, j, none⟩ (.int .i64 v)).setCell ⟨g6, j, none⟩ (.slice (some ⟨wr.heap.size, 0, none⟩) 1 1)).heap.size = wr.heap.size := by simp [World.setCell]
                      rw [e9] at o9
                      exact owns_mono o9 hsz7
                    · exact ((HB.out.setCell hD5 _).setCell hD6 _).alloc (by simp [World.setCell]; omega) _
                  case measure => simp [intOf]; omega
            · have g1 : decide ((j : Int) < (T.length : Int)) = false := decide_eq_false (by omega)
              have g2 : decide (j < T.length) = false := decide_eq_false hjT
              clear HLT HGE HLD HK2 HLS hdup
              have hsz : D ≤ wr.heap.size := by have h7 := HB.out.size; have h8 := HD.out; omega
              go_wp2_with (first | (at_builtin; refine wpList_pushL rfl (.tmp 67) (.tmp 68) 24 rfl D 3 Tryz.underlying24 hi hz0 hz1 hz2 rfl (by decide) [.int .i64 0] rfl (by intro u hu; simp at hu; subst hu; rfl) rfl (by first | rfl | (show Value.slice (some ⟨_, 0, none⟩) 1 1 = _; simp)) SS.out.2.1 (by unfold maxLen; omega) (by omega) hsz ?_; intro g5 c5 w5 o5 gr5 at5 lt5; have G1 := Lib.hid (SS.out.grow1 gr5 at5); have O5 := Lib.hid o5; have HB5 := Lib.hid (HB.out.grown gr5 hsz (fun q hq => (SS.out.2.1.lt q hq).1)); have hsz5 : D ≤ w5.heap.size := (by have h7 := HB5.out.size; have h8 := HD.out; omega); clear gr5 at5 o5) | (at_builtin; refine wpList_pushL rfl (.tmp 70) (.tmp 71) 34 rfl D 24 Tryz.underlying34 li lz0 lz1 lz2 rfl (by decide) [.slice none 0 0] rfl (by intro u hu; simp at hu; subst hu; rfl) rfl (by first | rfl | (show Value.slice (some ⟨_, 0, none⟩) 1 1 = _; simp)) G1.out.1 (by unfold maxLen; omega) (by omega) hsz5 ?_; intro g6 c6 w6 o6 gr6 at6 lt6; have G2 := Lib.hid (SS.out.grow2 G1.out.1 G1.out.2.1 O5.out G1.out.2.2.2 gr6 at6); have O6 := Lib.hid o6; have HB6 := Lib.hid (HB5.out.grown gr6 hsz5 (fun q hq => (G1.out.1.lt q hq).1)); clear gr6 at6 o6))
              have HNT := Lib.hid G2.out.2.2.1
              have HNA := Lib.hid G1.out.2.2.1
              have hn1 : g6 ≠ g5 := G2.out.2.2.2
              have hn2 : g5 ≠ g6 := hn1.symm
              have HAP : Hid (ApartL (T.map fun x => x.2.1)) := (List.pairwise_cons.1 (List.pairwise_cons.1 SS.out.2.2.2).2).2
              have RO : Hid (w6.ownsRow D 24 1 (.slice (some ⟨g6, 0, none⟩) (T.length + 1) c6) (T.length + 1) (gapA (T.map fun x => x.2.1) T.length (.slice none 0 0))) := by
                have e1 := gapA_end (L := T.map fun x => x.2.1) (u := Value.slice none 0 0)
                rw [List.length_map] at e1
                rw [e1]
                exact O6.out
              have RA : Hid (w6.ownsRow D 3 1 (.slice (some ⟨g5, 0, none⟩) (T.length + 1) c5) (T.length + 1) ((gapA (T.map Prod.fst) T.length 0).map (Value.int .i64))) := by
                have e1 := gapA_end (L := T.map Prod.fst) (u := (0 : Int))
                rw [List.length_map] at e1
                rw [e1, List.map_append, List.map_map]
                exact G2.out.1
              have RT := Lib.hid G2.out.2.1
              clear G1 G2 O5 O6 HB5 SS HB lt5 lt6
              go_loopw [14] (fun iv wr => ∃ (i : Nat) (u : Int) (uv : Value), j ≤ i ∧ i ≤ T.length ∧ iv = .int .i64 i ∧ Hid (wr.ownsRow D 24 1 (.slice (some ⟨g6, 0, none⟩) (T.length + 1) c6) (T.length + 1) (gapA (T.map fun x => x.2.1) i uv)) ∧ Hid (wr.ownsRow D 3 1 (.slice (some ⟨g5, 0, none⟩) (T.length + 1) c5) (T.length + 1) ((gapA (T.map Prod.fst) i u).map (Value.int .i64))) ∧ Hid (OwnT wr D 3 T) ∧ Hid (Below D w1 wr)) (fun iv _ => (intOf iv).toNat)
              case atStart => exact ⟨T.length, 0, .slice none 0 0, by omega, Nat.le_refl _, by go_num, RO, RA, RT, HB6⟩
              case round =>
                clear RO RA RT HB6
                obtain ⟨i, u, uv, hji, hiT, rfl, RO, RA, RT, HB⟩ := hrel
                have hsz7 : D ≤ wr.heap.size := by have h7 := HB.out.size; have h8 := HD.out; omega
                have hD5 : D ≤ g5 := (RA.out.lt g5 rfl).1
                have hD6 : D ≤ g6 := (RO.out.lt g6 rfl).1
                have hl5 : g5 < wr.heap.size := (RA.out.lt g5 rfl).2
                have hl6 : g6 < wr.heap.size := (RO.out.lt g6 rfl).2
                by_cases hij : j < i
                · exact absurd hij (by omega)
                · have hij' : j = i := by omega
                  subst hij'
                  obtain ⟨s1, hs1⟩ := owns_some RA.out j (by omega)
                  obtain ⟨s2, hs2⟩ := owns_some RO.out j (by omega)
                  have c3 := owns_cell RA.out j (by omega) (Lib.hid hs1)
                  have c4 := owns_cell RO.out j (by omega) (Lib.hid hs2)
                  have f3 := RA.out.frozenAt j
                  have f4 := RO.out.frozenAt j
                  have F1 : Hid (((gapA (T.map Prod.fst) j u).map (Value.int .i64)).set j (.int .i64 v) = (gapA (T.map Prod.fst) j v).map (Value.int .i64)) := by
                    show _ = _
                    rw [← List.map_set, gapA_set (by simp; omega)]
                  have F2 : Hid (∀ nv, (gapA (T.map fun x => x.2.1) j uv).set j nv = gapA (T.map fun x => x.2.1) j nv) := fun nv => by
                    rw [gapA_set (by simp; omega)]
                  clear hs1 hs2
                  go_wp2
                  go_roundw
                  case rel =>
                    refine ⟨k + 1, gapA T j (v, .slice (some ⟨wr.heap.size, 0, none⟩) 1 1, [(tn : Int)]), by omega, by go_num, (HINS.out _).symm, by rw [gapA_len hiT]; omega, SplitSt.new (w' := w) (D := wr.heap.size) ?_ ?_ ?_ HAP.out ?_ HNT.out HNA.out (fun x hx e => by have := (RT.out.lt hx e).2; omega) hn1 (by omega) (by omega) hiT, ?_⟩
                    · rw [← F2.out]
                      exact ((ownsRow_setCell_other RO.out (by simpa [Value.ownBlock] using hn1) _).stored j _).1.alloc _
                    · rw [← F1.out]
                      exact (ownsRow_setCell_other (RA.out.stored j _).1 (by simpa [Value.ownBlock] using hn2) _).alloc _
                    · exact fun x hx => (((RT.out.store (a := ⟨g5, j, none⟩) HNA.out _).store (a := ⟨g6, j, none⟩) HNT.out _) x hx).alloc _
                    · have o9 := World.ownsRow_lit (e := 3) (size := 1) ((wr.setCell ⟨g5, j, none⟩ (.int .i64 v)).setCell ⟨g6, j, none⟩ (.slice (some ⟨wr.heap.size, 0, none⟩) 1 1)) #[.int .i64 tn] 1 (Nat.le_refl _) (by decide) rfl
                      have e9 : ((wr.setCell ⟨g5, j, none⟩ (.int .i64 v)).setCell ⟨g6, j, none⟩ (.slice (some ⟨wr.heap.size, 0, none⟩) 1 1)).heap.size = wr.heap.size := by simp [World.setCell]
                      rw [e9] at o9
                      exact owns_mono o9 hsz7
                    · exact ((HB.out.setCell hD5 _).setCell hD6 _).alloc (by simp [World.setCell]; omega) _
                  case measure => simp [intOf]; omega
    · obtain rfl : k = ng := by omega
      go_wp2
      go_ret
      refine ⟨_, T.map Prod.snd, rfl, ?_, (SS.out.ll).mono (by have := HD.out; omega), ?_⟩
      · rw [← hT.out]
        unfold datT
        simp [List.map_map, Function.comp_def]
      · have := HB.out
        rw [← HD.out] at this
        exact HE1.out.trans (this.mono hD1)
end Go.Proofs.YtakbolkdbpehoaaGreat
