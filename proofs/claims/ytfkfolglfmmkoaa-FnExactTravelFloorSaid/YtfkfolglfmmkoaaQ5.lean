/-
  Packed: BookKit, BookVals, KeyValue, TeamsAll, Push2, Lists2, SplitBy, RankFacts, Rank, RankFrom, RankPlain.
-/
import Derived.Laws.AppendOwnNone
import Derived.OneCell
import Derived.Test.YtfkfolglfmmkoaaQ1
import Derived.Test.YtfkfolglfmmkoaaQ2
import Derived.Test.YtfkfolglfmmkoaaQ3
import Derived.Test.YtfkfolglfmmkoaaQ4
set_option linter.unusedVariables false
namespace Go.Proofs.Ytfkfolglfmmkoaa
open Go.RowKit

abbrev bkList (fa : Option Addr) (fc : Nat) (la : Option Addr) (lc : Nat) (ga : Option Addr) (gc : Nat) (qa : Option Addr) (qc : Nat) (ta : Option Addr) (tc : Nat) (b : BookD) : List Value :=
  [.slice fa b.nf fc, .int .i64 b.win, .int .i64 b.draw, .int .i64 b.loss, .slice la b.nl lc, .bool b.again, .slice ga b.m gc, .slice qa b.nfa qc, .slice ta b.nta tc]
structure BkAt (w0 w : World) (B : Nat) (fa : Option Addr) (fc : Nat) (la : Option Addr) (lc : Nat) (ga : Option Addr) (gc : Nat) (qa : Option Addr) (qc : Nat) (ta : Option Addr) (tc : Nat) (b : BookD) : Prop where
  box : BoxN w B (bkList fa fc la lc ga gc qa qc ta tc b)
  row0 : BookRow w0 (.slice fa b.nf fc) (.slice la b.nl lc) (.slice ga b.m gc) (.slice qa b.nfa qc) (.slice ta b.nta tc) b
  bel : Below w0.heap.size w0 w
section
variable {w0 w w' : World} {B : Nat} {fa : Option Addr} {fc : Nat} {la : Option Addr} {lc : Nat} {ga : Option Addr} {gc : Nat} {qa : Option Addr} {qc : Nat} {ta : Option Addr} {tc : Nat} {b : BookD}
theorem BkAt.row (h : BkAt w0 w B fa fc la lc ga gc qa qc ta tc b) : BookRow w (.slice fa b.nf fc) (.slice la b.nl lc) (.slice ga b.m gc) (.slice qa b.nfa qc) (.slice ta b.nta tc) b := h.row0.below h.bel (Nat.le_refl _)
theorem BkAt.next (h : BkAt w0 w B fa fc la lc ga gc qa qc ta tc b) (hb : Below w.heap.size w w') : BkAt w0 w' B fa fc la lc ga gc qa qc ta tc b :=
  ⟨BoxN.below h.box hb, h.row0, h.bel.trans (hb.mono h.bel.size)⟩
theorem box_store {w : World} {B : Nat} {cs : List Value} (h : BoxN w B cs) {p : Addr} (hp : B ≠ p.block) (u : Value) : BoxN (w.setCell p u) B cs :=
  ⟨by have := h.1; simp; omega, fun j v hj => (World.cell?_of_block (w := w) (w' := w.setCell p u) (a := ⟨B, j, none⟩) (Below.heap_setCell w p u B hp)).trans (h.2 j v hj)⟩
theorem BkAt.store (h : BkAt w0 w B fa fc la lc ga gc qa qc ta tc b) {p : Addr} (hp : B ≠ p.block) (h0 : w0.heap.size ≤ p.block) (u : Value) : BkAt w0 (w.setCell p u) B fa fc la lc ga gc qa qc ta tc b :=
  ⟨box_store h.box hp u, h.row0, h.bel.setCell h0 u⟩
theorem BkAt.alloc (h : BkAt w0 w B fa fc la lc ga gc qa qc ta tc b) (o : Obj) : BkAt w0 (w.alloc o) B fa fc la lc ga gc qa qc ta tc b :=
  h.next ((Below.refl _ _).alloc (Nat.le_refl _) _)
theorem BkAt.made (h : BookRow w (.slice fa b.nf fc) (.slice la b.nl lc) (.slice ga b.m gc) (.slice qa b.nfa qc) (.slice ta b.nta tc) b) (t : TypeId) :
    BkAt w (w.alloc (.cells (bkList fa fc la lc ga gc qa qc ta tc b).toArray t)) w.heap.size fa fc la lc ga gc qa qc ta tc b :=
  ⟨BoxN.made (Below.refl _ _) rfl, h, (Below.refl _ _).alloc (Nat.le_refl _) _⟩
theorem BkAt.made2 {u : World} (h : BookRow w0 (.slice fa b.nf fc) (.slice la b.nl lc) (.slice ga b.m gc) (.slice qa b.nfa qc) (.slice ta b.nta tc) b) (hu : Below w0.heap.size w0 u) (t : TypeId) (hB : u.heap.size = B) :
    BkAt w0 (u.alloc (.cells (bkList fa fc la lc ga gc qa qc ta tc b).toArray t)) B fa fc la lc ga gc qa qc ta tc b :=
  ⟨BoxN.made (Below.refl _ _) hB, h, hu.trans (((Below.refl _ _).alloc (Nat.le_refl _) _).mono hu.size)⟩
theorem BkAt.grown {q : Nat} (h : BkAt w0 w B fa fc la lc ga gc qa qc ta tc b) (hg : w.grownBy w' (some q)) (hq : B < q) (h0 : w0.heap.size ≤ B) : BkAt w0 w' B fa fc la lc ga gc qa qc ta tc b :=
  ⟨⟨Nat.lt_of_lt_of_le h.box.1 hg.size, fun j v hj => hg.cell (h.box.2 j v hj) (by simp; omega)⟩, h.row0, h.bel.grown hg h.bel.size (fun k e => by cases e; omega)⟩
theorem code_named {P : Program} {c : Code} {Q : Exit → Act → World → Prop} {a : Act} {w : World} (h : ∀ w', Hid (w' = w) → Code.wp P c Q a w') : Code.wp P c Q a w := h w rfl
theorem BkAt.cells (h : BkAt w0 w B fa fc la lc ga gc qa qc ta tc b) :
    w.cell? ⟨B, 0, none⟩ = some (.slice fa b.nf fc) ∧ w.cell? ⟨B, 1, none⟩ = some (.int .i64 b.win) ∧ w.cell? ⟨B, 2, none⟩ = some (.int .i64 b.draw) ∧ w.cell? ⟨B, 3, none⟩ = some (.int .i64 b.loss) ∧ w.cell? ⟨B, 4, none⟩ = some (.slice la b.nl lc) ∧ w.cell? ⟨B, 5, none⟩ = some (.bool b.again) ∧ w.cell? ⟨B, 6, none⟩ = some (.slice ga b.m gc) ∧ w.cell? ⟨B, 7, none⟩ = some (.slice qa b.nfa qc) ∧ w.cell? ⟨B, 8, none⟩ = some (.slice ta b.nta tc) :=
  ⟨h.box.2 0 _ rfl, h.box.2 1 _ rfl, h.box.2 2 _ rfl, h.box.2 3 _ rfl, h.box.2 4 _ rfl, h.box.2 5 _ rfl, h.box.2 6 _ rfl, h.box.2 7 _ rfl, h.box.2 8 _ rfl⟩
theorem BkAt.lt (h : BkAt w0 w B fa fc la lc ga gc qa qc ta tc b) : B < w.heap.size := h.box.1
theorem BkAt.size (h : BkAt w0 w B fa fc la lc ga gc qa qc ta tc b) : w0.heap.size ≤ w.heap.size := h.bel.size
end
theorem BookRow.sixty {w : World} {vf vl vg vfa vta : Value} {b : BookD} (h : BookRow w vf vl vg vfa vta b) : (b.nf : Int) ≤ 9223372036854775807 ∧ (b.nl : Int) ≤ 9223372036854775807 ∧ (b.m : Int) ≤ 9223372036854775807 ∧ (b.nfa : Int) ≤ 9223372036854775807 ∧ (b.nta : Int) ≤ 9223372036854775807 := by
  obtain ⟨_, _, _, h1, _⟩ := h.1.form
  obtain ⟨_, _, _, h2, _⟩ := h.2.1.form
  obtain ⟨_, _, _, h3, _⟩ := h.2.2.1.form
  obtain ⟨_, _, _, h4, _⟩ := h.2.2.2.1.form
  obtain ⟨_, _, _, h5, _⟩ := h.2.2.2.2.form
  exact ⟨by omega, by omega, by omega, by omega, by omega⟩
end Go.Proofs.Ytfkfolglfmmkoaa
set_option linter.unusedVariables false
namespace Go.Proofs.Ytfkfolglfmmkoaa
open Go.RowKit

def valD (key : Int) (r : RowD) (tk fr sd : Int) : Int :=
  if key = 1 then wrap64 (r.points - tk) else if key = 5 then r.points else if key = 2 ∨ key = 6 then wrap64 (r.scored - r.against) else if key = 3 then r.scored else if key = 4 then r.wins else if key = 7 then wrap64 (-fr) else if key = 8 then wrap64 (-sd) else 0
def bookT (b : BookD) (key : Int) (gg : Nat → Int) (ng : Nat) : Nat → RowD := tabR b.win b.draw b.loss (selG (!mutualB key) gg ng) b.g b.m
def bookV (b : BookD) (key : Int) (gg : Nat → Int) (ng : Nat) (i : Nat) : Int := valD key (bookT b key gg ng i) (b.ta i) (b.fa i) (b.f i).seed
theorem row_of {w : World} {a : Option Addr} {c n j : Nat} {T : Nat → RowD} (h : RowRow w (.slice a n c) n T) (hj : j < n) : ∃ bo off, a = some ⟨bo, off, none⟩ ∧ n ≤ c ∧ CellsAt w bo (off + j * 7) (T j).cells := by
  obtain ⟨aa, cap, he, _, hc⟩ := h.form
  simp only [Value.slice.injEq, true_and] at he
  obtain ⟨bo, off, h1, h2, h3⟩ := hc (by omega)
  obtain ⟨rfl, rfl⟩ := he
  exact ⟨bo, off, h1, h2, h3 j hj⟩
def valsL (V : Nat → Int) (k : Nat) : List Int := (List.range k).map V
theorem valsL_succ (V : Nat → Int) (k : Nat) : valsL V (k + 1) = valsL V k ++ [V k] := by unfold valsL; rw [List.range_succ, List.map_append]; rfl
end Go.Proofs.Ytfkfolglfmmkoaa
set_option linter.unusedVariables false
namespace Go.Proofs.Ytfkfolglfmmkoaa
open Go.RowKit

def keyP (b : BookD) (team : Int) : Prop := bookP b ∧ 0 ≤ team ∧ team ≤ b.nf - 1
end Go.Proofs.Ytfkfolglfmmkoaa
set_option linter.unusedVariables false
namespace Go.Proofs.Ytfkfolglfmmkoaa
open Go.RowKit

def teamsP (n : Nat) (ng : Nat) (gg : Nat → Int) : Prop := ∀ i, i < ng → 0 ≤ gg i ∧ gg i ≤ (n : Int) - 1
end Go.Proofs.Ytfkfolglfmmkoaa
set_option linter.unusedVariables false
namespace Go.Proofs.Ytfkfolglfmmkoaa
open Go.RowKit

theorem run_append_zero {P : Program} {w : World} (base : Nat) (t ty e : TypeId) (i : TypeInfo) (size : Nat) (ht : P.underlying t = some (.slice e)) (hi : P.info? e = some i)
    (v : Value) (n : Nat) (xs : List Value) (hown : w.ownsRow base e size v n xs) (ad : Option Addr) (c : Nat) :
    (Builtin.append_ #[t, t] ty #[v, .slice ad 0 c]).run P w = .ok v w := by
  rcases ad with _ | ad
  · rcases hown.2 with ⟨rfl, rfl⟩ | ⟨g, cap, cur, rfl, _, _, hnc, _⟩
    · simp [Builtin.append_, run_underlying ht, sizeOf, typeInfo, hi, Builtin.lenOf, Builtin.firstCells]
    · simp [Builtin.append_, run_underlying ht, sizeOf, typeInfo, hi, Builtin.lenOf, Builtin.firstCells, hnc, storeCells]
  · have h0 : Sem.run P (loadCells ad 0) w = .ok #[] w := by simp [loadCells, loadCellsFrom]
    rcases hown.2 with ⟨rfl, rfl⟩ | ⟨g, cap, cur, rfl, _, _, hnc, _⟩
    · simp [Builtin.append_, run_underlying ht, sizeOf, typeInfo, hi, Builtin.lenOf, Builtin.firstCells, h0]
    · simp [Builtin.append_, run_underlying ht, sizeOf, typeInfo, hi, Builtin.lenOf, Builtin.firstCells, hnc, storeCells, h0]
theorem wpList_appendZero {P : Program} {w : World} {ops : Array Oper} {rest : List Oper} {o : Oper} {a : Act} {Q : Exit → Act → World → Prop} (hgd : o.guard = none) (s x : Operand) (t : TypeId)
    (ho : o.op = .call { callee := .builtin .append, args := #[s, x], argTypes := #[t, t] })
    (base : Nat) (e : TypeId) (i : TypeInfo) (size : Nat) (ht : P.underlying t = some (.slice e)) (hi : P.info? e = some i)
    (v : Value) (n : Nat) (xs : List Value) (hs : a.eval s = v) (hown : w.ownsRow base e size v n xs) (ad : Option Addr) (c : Nat) (hx : a.eval x = .slice ad 0 c)
    (h : wpList P ops Q rest (a.put o.dst v) w) : wpList P ops Q (o :: rest) a w := by
  refine wpList_plain hgd fun K hK => ?_
  have hrun := run_append_zero (P := P) (w := w) base t o.type e i size ht hi v n xs hown ad c
  unfold Oper.wp
  simp [execOp, ho, resolve, invoke, builtin, hs, hx, hrun, Result.andThen]
  exact hK _ _ h
def flatR (g : Nat → List Value) (n : Nat) : List Value := (List.range n).flatMap g
theorem flatR_len (k : Nat) (g : Nat → List Value) (n : Nat) (hk : ∀ i, i < n → (g i).length = k) : (flatR g n).length = n * k := by
  induction n with
  | zero => simp [flatR]
  | succ n ih =>
    have := ih fun i hi => hk i (by omega)
    unfold flatR at this ⊢
    rw [List.range_succ, List.flatMap_append, List.length_append, this]
    simp [hk n (by omega), Nat.succ_mul]
theorem flatR_cells (k : Nat) (g : Nat → List Value) (n : Nat) (hk : ∀ i, i < n → (g i).length = k) : RecCells k n (flatR g n) g := by
  induction n with
  | zero => exact RecCells.nil
  | succ n ih =>
    have h1 := ih fun i hi => hk i (by omega)
    have h2 := flatR_len k g n fun i hi => hk i (by omega)
    have h3 : flatR g (n + 1) = flatR g n ++ g n := by unfold flatR; rw [List.range_succ, List.flatMap_append]; simp
    rw [h3]
    exact h1.push h2 rfl (hk n (by omega))
theorem flatR_get (k : Nat) (g : Nat → List Value) (n : Nat) (hk : ∀ i, i < n → (g i).length = k) (h0 : 0 < k) (j : Nat) (u : Value) (h : (flatR g n)[j]? = some u) :
    j / k < n ∧ (g (j / k))[j % k]? = some u := by
  have hl := flatR_len k g n hk
  have hj : j < n * k := by rw [← hl]; exact (List.getElem?_eq_some_iff.1 h).1
  have hjn : j / k < n := Nat.div_lt_of_lt_mul (by rw [Nat.mul_comm]; exact hj)
  refine ⟨hjn, ?_⟩
  have hm : j % k < (g (j / k)).length := by rw [hk _ hjn]; exact Nat.mod_lt _ h0
  obtain ⟨u', hu'⟩ : ∃ u', (g (j / k))[j % k]? = some u' := ⟨_, List.getElem?_eq_getElem hm⟩
  have := flatR_cells k g n hk (j / k) hjn (j % k) u' hu'
  rw [Nat.mul_comm, Nat.div_add_mod, h] at this
  rw [hu']; exact this.symm
theorem wpList_cloneR {P : Program} {w : World} {ops : Array Oper} {rest : List Oper} {o : Oper} {a : Act} {Q : Exit → Act → World → Prop} (hgd : o.guard = none) (s x : Operand) (t : TypeId)
    (ho : o.op = .call { callee := .builtin .append, args := #[s, x], argTypes := #[t, t] })
    (e : TypeId) {i : TypeInfo} {z : Value} {k bytes : Nat} (ht : P.underlying t = some (.slice e)) (hi : P.info? e = some i) (hz : i.zero = some z) (hsize : i.size = k) (hby : i.bytes = bytes) (hzs : z.cells.size = k) (hk0 : 0 < k)
    {v : Value} {m : Nat} {g : Nat → List Value} (hs : a.eval s = .slice (some ⟨w.heap.size, 0, none⟩) 0 0) (hx : a.eval x = v) (hrow : RecRow k w v m g) (hgl : ∀ i, i < m → (g i).length = k) (h1 : ∀ i, i < m → ∀ u ∈ g i, u.oneCell' = true)
    (hm : m ≤ 1048576) (hb : bytes ≤ 1048576)
    (h : ∀ vv w', w'.ownsRow w.heap.size e k vv m (flatR g m) → Below w.heap.size w w' → wpList P ops Q rest (a.put o.dst vv) w') : wpList P ops Q (o :: rest) a (w.alloc (.cells #[] e)) := by
  have hown : (w.alloc (.cells #[] e)).ownsRow w.heap.size e k (.slice (some ⟨w.heap.size, 0, none⟩) 0 0) 0 [] := World.ownsRow_lit w #[] 0 (Nat.le_refl _) (by decide) (by simp)
  rcases hrow with ⟨ad, cap, rfl, rfl⟩ | ⟨b, off, c, rfl, h0, _, hc, _⟩
  · exact wpList_appendZero hgd s x t ho w.heap.size e i k ht hi _ 0 [] hs hown ad cap hx (h _ _ (by simpa [flatR] using hown) ((Below.refl _ _).alloc (Nat.le_refl _) _))
  · have hmul : (0 + m) * bytes ≤ 1048576 * 1048576 := Nat.mul_le_mul (by omega) hb
    refine wpList_append_lies _ hgd s x t ho w.heap.size e i z k bytes ht hi hz hsize hby hzs hk0 _ 0 [] hs hown ⟨b, off, none⟩ m c (flatR g m) hx (flatR_len k g m hgl) ?_ ?_ h0 (by unfold maxLen; omega) (by omega) (by simp) _ rfl ?_
    · intro j u hu
      obtain ⟨hj, hv⟩ := flatR_get k g m hgl hk0 j u hu
      have hadd : (⟨b, off, none⟩ : Addr).add j = ⟨b, off + j, none⟩ := by unfold Addr.add; split <;> simp_all
      have hq := (hc _ hj).2 _ u hv
      rw [show off + j / k * k + j % k = off + j by rw [Nat.add_assoc, Nat.mul_comm, Nat.div_add_mod]] at hq
      rw [hadd]
      exact (((Below.refl _ w).alloc (Nat.le_refl _) (.cells #[] e)).cell (p := ⟨b, off + j, none⟩) (hc _ hj).1).trans hq
    · intro u hu
      unfold flatR at hu
      rw [List.mem_flatMap] at hu
      obtain ⟨j, hj, hu⟩ := hu
      exact h1 j (List.mem_range.1 hj) u hu
    · intro gg cap w' ho' hg' hat hlt
      simp only [Nat.zero_add, List.nil_append] at ho' ⊢
      exact h _ w' ho' (((Below.refl _ w).alloc (Nat.le_refl _) _).grown hg' (by simp) (fun k hk => by simp [Value.ownBlock] at hk; omega))
end Go.Proofs.Ytfkfolglfmmkoaa
set_option linter.unusedVariables false
namespace Go.Proofs.Ytfkfolglfmmkoaa
open Go.RowKit

theorem pairwise_set {α : Type} {R : α → α → Prop} (hs : ∀ a b, R a b → R b a) : ∀ (l : List α) (i : Nat) (x : α), l.Pairwise R → (∀ j y, j ≠ i → l[j]? = some y → R x y) → (l.set i x).Pairwise R
  | [], _, _, h, _ => by simp
  | y :: l, 0, x, h, hx => by
    rw [List.set_cons_zero, List.pairwise_cons]
    exact ⟨fun z hz => by obtain ⟨j, hj⟩ := List.mem_iff_getElem?.1 hz; exact hx (j + 1) z (by omega) (by simpa using hj), (List.pairwise_cons.1 h).2⟩
  | y :: l, i + 1, x, h, hx => by
    rw [List.set_cons_succ, List.pairwise_cons]
    refine ⟨fun z hz => ?_, pairwise_set hs l i x (List.pairwise_cons.1 h).2 fun j z hj hz => hx (j + 1) z (by omega) (by simpa using hz)⟩
    rcases List.mem_or_eq_of_mem_set hz with hz | rfl
    · exact (List.pairwise_cons.1 h).1 z hz
    · exact hs _ _ (hx 0 y (by omega) rfl)
theorem pairwise_at {α : Type} {R : α → α → Prop} (hs : ∀ a b, R a b → R b a) : ∀ (l : List α) (i j : Nat) (x y : α), l.Pairwise R → l[i]? = some x → l[j]? = some y → i ≠ j → R x y
  | [], _, _, _, _, _, h, _, _ => by simp at h
  | z :: l, 0, 0, _, _, _, _, _, hn => absurd rfl hn
  | z :: l, 0, j + 1, x, y, h, h1, h2, _ => by
    simp only [List.getElem?_cons_zero, Option.some.injEq] at h1
    subst h1
    exact (List.pairwise_cons.1 h).1 y (List.mem_of_getElem? (by simpa using h2))
  | z :: l, i + 1, 0, x, y, h, h1, h2, _ => by
    simp only [List.getElem?_cons_zero, Option.some.injEq] at h2
    subst h2
    exact hs _ _ ((List.pairwise_cons.1 h).1 x (List.mem_of_getElem? (by simpa using h1)))
  | z :: l, i + 1, j + 1, x, y, h, h1, h2, hn => pairwise_at hs l i j x y (List.pairwise_cons.1 h).2 (by simpa using h1) (by simpa using h2) (by omega)
def SplitSt (w : World) (B : Nat) (ov av : Value) (T : List (Int × Value × List Int)) : Prop :=
  w.ownsRow B 24 1 ov T.length (T.map fun x => x.2.1) ∧ w.ownsRow B 3 1 av T.length (T.map fun x => Value.int .i64 x.1) ∧ OwnT w B 3 T ∧ ApartL (ov :: av :: T.map fun x => x.2.1)
theorem SplitSt.below {w w' : World} {B C : Nat} {ov av : Value} {T : List (Int × Value × List Int)} (h : SplitSt w B ov av T) (hb : Below C w w') (hC : w.heap.size ≤ C) : SplitSt w' B ov av T :=
  ⟨owns_below h.1 hb hC, owns_below h.2.1 hb hC, h.2.2.1.below hb hC, h.2.2.2⟩
theorem apart_ne {v : Value} {g : Nat} {n c : Nat} (h : ApartV (.slice (some ⟨g, 0, none⟩) n c) v) : v.ownBlock ≠ some g := h g rfl
theorem SplitSt.old {w w' : World} {B og oc ld gg m c' : Nat} {av iv : Value} {v t : Int} {p : List Int} {T : List (Int × Value × List Int)}
    (h : SplitSt w B (.slice (some ⟨og, 0, none⟩) T.length oc) av T) (hx : T[ld]? = some (v, iv, p)) (hg : w.grownBy w' iv.ownBlock)
    (ho : w'.ownsRow B 3 1 (.slice (some ⟨gg, 0, none⟩) (p.length + 1) c') (p.length + 1) (p.map (Value.int .i64) ++ [.int .i64 t])) (hat : iv.ownBlock = some gg ∨ w.heap.size ≤ gg) :
    SplitSt (w'.setCell ⟨og, ld, none⟩ (.slice (some ⟨gg, 0, none⟩) (p.length + 1) c')) B (.slice (some ⟨og, 0, none⟩) T.length oc) av (T.set ld (v, .slice (some ⟨gg, 0, none⟩) (p.length + 1) c', p ++ [t])) := by
  obtain ⟨h1, h2, h3, h4⟩ := h
  have hld : ld < T.length := (List.getElem?_eq_some_iff.1 hx).1
  have ha := List.pairwise_cons.1 h4
  have hb := List.pairwise_cons.1 ha.2
  have hm : ∀ x ∈ T, x.2.1 ∈ T.map fun x => x.2.1 := fun x hx => List.mem_map.2 ⟨x, hx, rfl⟩
  have hxm : (v, iv, p) ∈ T := List.mem_of_getElem? hx
  have hoi : ∀ k, iv.ownBlock = some k → og ≠ k := fun k hk e => ha.1 iv (List.mem_cons_of_mem _ (hm _ hxm)) og rfl (by rw [e]; exact hk)
  have hai : ∀ k, iv.ownBlock = some k → av.ownBlock ≠ some k := fun k hk e => hb.1 iv (hm _ hxm) k e hk
  have hoL := h1.lt og rfl
  have hgo : gg ≠ og := by
    rcases hat with h | h
    · exact fun e => hoi gg h e.symm
    · omega
  have hblk : ∀ k, (Value.slice (some ⟨gg, 0, none⟩) (p.length + 1) c').ownBlock = some k → k = gg := fun k hk => by simpa [Value.ownBlock] using hk.symm
  have hao : av.ownBlock ≠ some og := ha.1 av (List.mem_cons_self ..) og rfl
  have hmap : (T.set ld (v, Value.slice (some ⟨gg, 0, none⟩) (p.length + 1) c', p ++ [t])).map (fun x => x.2.1) = (T.map fun x => x.2.1).set ld (.slice (some ⟨gg, 0, none⟩) (p.length + 1) c') := by rw [List.map_set]
  refine ⟨?_, ?_, ?_, ?_⟩
  · rw [hmap, List.length_set]
    exact ((h1.kept hg (.inr (by cases hk : iv.ownBlock with
      | none => simp [Value.ownBlock]
      | some k => have := hoi k hk; simp [Value.ownBlock]; exact this))).stored ld _).1
  · rw [List.length_set]
    have hmap2 : (T.set ld (v, Value.slice (some ⟨gg, 0, none⟩) (p.length + 1) c', p ++ [t])).map (fun x => Value.int .i64 x.1) = T.map fun x => Value.int .i64 x.1 := by
      rw [List.map_set]
      apply List.ext_getElem?
      intro j
      by_cases e : ld = j
      · subst e
        rw [List.getElem?_set_self (by simpa using hld), List.getElem?_map, hx]
        rfl
      · rw [List.getElem?_set_ne e]
    rw [hmap2]
    refine ownsRow_setCell_other (h2.kept hg ?_) hao _
    cases hk : iv.ownBlock with
    | none => cases hk2 : av.ownBlock with
      | none => exact .inl rfl
      | some k2 => exact .inr (by simp)
    | some k => exact .inr fun e => hai k hk e
  · intro x hxs
    obtain ⟨j, hj⟩ := List.mem_iff_getElem?.1 hxs
    by_cases e : ld = j
    · subst e
      rw [List.getElem?_set_self hld, Option.some.injEq] at hj
      subst hj
      refine ownsRow_setCell_other ?_ ?_ _
      · simpa using ho
      · exact fun e => hgo (hblk og e).symm
    · rw [List.getElem?_set_ne e] at hj
      have hxT := List.mem_of_getElem? hj
      refine ownsRow_setCell_other ((h3 x hxT).kept hg ?_) ?_ _
      · have hap := pairwise_at (fun a b => ApartV.symm) _ ld j iv x.2.1 hb.2 (by rw [List.getElem?_map, hx]; rfl) (by rw [List.getElem?_map, hj]; rfl) e
        cases hk : iv.ownBlock with
        | none => cases hk2 : x.2.1.ownBlock with
          | none => exact .inl rfl
          | some k2 => exact .inr (by simp)
        | some k => exact .inr (hap k hk)
      · exact ha.1 x.2.1 (List.mem_cons_of_mem _ (hm x hxT)) og rfl
  · rw [hmap]
    refine List.pairwise_cons.2 ⟨fun z hz => ?_, List.pairwise_cons.2 ⟨fun z hz => ?_, ?_⟩⟩
    · rcases List.mem_cons.1 hz with rfl | hz
      · exact ha.1 _ (List.mem_cons_self ..)
      · rcases List.mem_or_eq_of_mem_set hz with hz | rfl
        · exact ha.1 z (List.mem_cons_of_mem _ hz)
        · exact fun k h1 h2 => hgo ((hblk k h2).symm.trans (by simpa [Value.ownBlock] using h1.symm))
    · rcases List.mem_or_eq_of_mem_set hz with hz | rfl
      · exact hb.1 z hz
      · intro k h1 h2'
        have := hblk k h2'
        subst this
        rcases hat with h | h
        · exact hai k h h1
        · have := (h2.lt k h1).2; omega
    · refine pairwise_set (fun a b => ApartV.symm) _ _ _ hb.2 fun j y hj hy => ?_
      intro k h1 h2'
      have := hblk k h1
      subst this
      rcases hat with h | h
      · exact pairwise_at (fun a b => ApartV.symm) _ ld j iv y hb.2 (by rw [List.getElem?_map, hx]; rfl) hy (by omega) k h h2'
      · rw [List.getElem?_map] at hy
        cases hT : T[j]? with
        | none => rw [hT] at hy; cases hy
        | some z =>
          rw [hT] at hy
          simp only [Option.map_some, Option.some.injEq] at hy
          subst hy
          have := (h3.lt (List.mem_of_getElem? hT) h2').2
          omega
theorem SplitSt.new {w w' : World} {B ga ca go co D ld : Nat} {v t : Int} {T : List (Int × Value × List Int)}
    (h1 : w.ownsRow B 24 1 (.slice (some ⟨go, 0, none⟩) (T.length + 1) co) (T.length + 1) (gapA (T.map fun x => x.2.1) ld (.slice (some ⟨D, 0, none⟩) 1 1)))
    (h2 : w.ownsRow B 3 1 (.slice (some ⟨ga, 0, none⟩) (T.length + 1) ca) (T.length + 1) ((gapA (T.map Prod.fst) ld v).map (Value.int .i64)))
    (h3 : OwnT w B 3 T) (h4 : ApartL (T.map fun x => x.2.1)) (h5 : w.ownsRow B 3 1 (.slice (some ⟨D, 0, none⟩) 1 1) 1 [.int .i64 t])
    (hgo : ∀ x ∈ T, x.2.1.ownBlock ≠ some go) (hga : ∀ x ∈ T, x.2.1.ownBlock ≠ some ga) (hD : ∀ x ∈ T, x.2.1.ownBlock ≠ some D) (hn1 : go ≠ ga) (hn2 : go ≠ D) (hn3 : ga ≠ D) (hld : ld ≤ T.length) :
    SplitSt w B (.slice (some ⟨go, 0, none⟩) (T.length + 1) co) (.slice (some ⟨ga, 0, none⟩) (T.length + 1) ca) (gapA T ld (v, .slice (some ⟨D, 0, none⟩) 1 1, [t])) := by
  have hl : (gapA T ld (v, Value.slice (some ⟨D, 0, none⟩) 1 1, [t])).length = T.length + 1 := gapA_len hld
  have hb : ∀ (g n c k : Nat), (Value.slice (some ⟨g, 0, none⟩) n c).ownBlock = some k → k = g := fun g n c k hk => by simpa [Value.ownBlock] using hk.symm
  have hin : ∀ y ∈ gapA (T.map fun x => x.2.1) ld (Value.slice (some ⟨D, 0, none⟩) 1 1), y = .slice (some ⟨D, 0, none⟩) 1 1 ∨ ∃ x ∈ T, x.2.1 = y := fun y hy => by
    rcases gapA_mem hy with h | h
    · exact .inl h
    · exact .inr (List.mem_map.1 h)
  refine ⟨by rw [hl, gapA_map]; exact h1, ?_, ?_, ?_⟩
  · rw [hl, gapA_map]
    rw [gapA_map, List.map_map] at h2
    exact h2
  · intro x hx
    rcases gapA_mem hx with rfl | hx
    · exact h5
    · exact h3 x hx
  · rw [gapA_map]
    refine List.pairwise_cons.2 ⟨fun z hz => ?_, List.pairwise_cons.2 ⟨fun z hz => ?_, gapA_pairwise h4 (fun y hy => ?_) fun y hy => ?_⟩⟩
    · rcases List.mem_cons.1 hz with rfl | hz
      · intro k e1 e2
        exact hn1 ((hb _ _ _ _ e1).symm.trans (hb _ _ _ _ e2))
      · rcases hin z hz with rfl | ⟨x, hx, rfl⟩
        · intro k e1 e2
          exact hn2 ((hb _ _ _ _ e1).symm.trans (hb _ _ _ _ e2))
        · intro k e1 e2
          have := hb _ _ _ _ e1
          subst this
          exact hgo x hx e2
    · rcases hin z hz with rfl | ⟨x, hx, rfl⟩
      · intro k e1 e2
        exact hn3 ((hb _ _ _ _ e1).symm.trans (hb _ _ _ _ e2))
      · intro k e1 e2
        have := hb _ _ _ _ e1
        subst this
        exact hga x hx e2
    · obtain ⟨x, hx, rfl⟩ := List.mem_map.1 hy
      intro k e1 e2
      have := hb _ _ _ _ e2
      subst this
      exact hD x hx e1
    · obtain ⟨x, hx, rfl⟩ := List.mem_map.1 hy
      intro k e1 e2
      have := hb _ _ _ _ e1
      subst this
      exact hD x hx e2
theorem OwnT.store {w : World} {B : Nat} {e : TypeId} {T : List (Int × Value × List Int)} (h : OwnT w B e T) {a : Addr} (ha : ∀ x ∈ T, x.2.1.ownBlock ≠ some a.block) (u : Value) : OwnT (w.setCell a u) B e T :=
  fun x hx => ownsRow_setCell_other (h x hx) (ha x hx) u
def LL (w : World) (B : Nat) (v : Value) (T : List (Value × List Int)) : Prop :=
  w.ownsRow B 24 1 v T.length (T.map Prod.fst) ∧ (∀ x ∈ T, w.ownsRow B 3 1 x.1 x.2.length (x.2.map (Value.int .i64))) ∧ ApartL (v :: T.map Prod.fst)
theorem LL.below {w w' : World} {B C : Nat} {v : Value} {T : List (Value × List Int)} (h : LL w B v T) (hb : Below C w w') (hC : w.heap.size ≤ C) : LL w' B v T :=
  ⟨owns_below h.1 hb hC, fun x hx => owns_below (h.2.1 x hx) hb hC, h.2.2⟩
theorem LL.mono {w : World} {B B' : Nat} {v : Value} {T : List (Value × List Int)} (h : LL w B v T) (hb : B' ≤ B) : LL w B' v T :=
  ⟨owns_mono h.1 hb, fun x hx => owns_mono (h.2.1 x hx) hb, h.2.2⟩
theorem SplitSt.ll {w : World} {B : Nat} {ov av : Value} {T : List (Int × Value × List Int)} (h : SplitSt w B ov av T) : LL w B ov (T.map Prod.snd) := by
  obtain ⟨h1, _, h3, h4⟩ := h
  refine ⟨by rw [List.length_map, List.map_map]; exact h1, fun x hx => ?_, ?_⟩
  · obtain ⟨y, hy, rfl⟩ := List.mem_map.1 hx
    exact h3 y hy
  · rw [List.map_map]
    have ha := List.pairwise_cons.1 h4
    exact List.pairwise_cons.2 ⟨fun z hz => ha.1 z (List.mem_cons_of_mem _ hz), (List.pairwise_cons.1 ha.2).2⟩
theorem wpList_appendR {P : Program} {w : World} {ops : Array Oper} {rest : List Oper} {o : Oper} {a : Act} {Q : Exit → Act → World → Prop} (hgd : o.guard = none) (s x : Operand) (t : TypeId)
    (ho : o.op = .call { callee := .builtin .append, args := #[s, x], argTypes := #[t, t] })
    (base : Nat) (e : TypeId) {i : TypeInfo} {z : Value} {k bytes : Nat} (ht : P.underlying t = some (.slice e)) (hi : P.info? e = some i) (hz : i.zero = some z) (hsize : i.size = k) (hby : i.bytes = bytes) (hzs : z.cells.size = k) (hk0 : 0 < k)
    {v u : Value} {n m : Nat} {xs : List Value} {g : Nat → List Value} (hs : a.eval s = v) (hown : w.ownsRow base e k v n xs) (hx : a.eval x = u) (hrow : RecRow k w u m g) (hgl : ∀ i, i < m → (g i).length = k) (h1 : ∀ i, i < m → ∀ u ∈ g i, u.oneCell' = true)
    (hm : n + m ≤ 1048576) (hb : bytes ≤ 1048576) (hbase : base ≤ w.heap.size)
    (h : ∀ vv w', w'.ownsRow base e k vv (n + m) (xs ++ flatR g m) → w.grownBy w' v.ownBlock → (∀ q, vv.ownBlock = some q → v.ownBlock = some q ∨ w.heap.size ≤ q) → wpList P ops Q rest (a.put o.dst vv) w') : wpList P ops Q (o :: rest) a w := by
  rcases hrow with ⟨ad, cap, rfl, rfl⟩ | ⟨b, off, c, rfl, h0, _, hc, _⟩
  · exact wpList_appendZero hgd s x t ho base e i k ht hi v n xs hs hown ad cap hx (h _ _ (by simpa [flatR] using hown) ⟨rfl, rfl, rfl, Nat.le_refl _, fun _ _ _ => rfl⟩ fun q hq => .inl hq)
  · have hmul : (n + m) * bytes ≤ 1048576 * 1048576 := Nat.mul_le_mul hm hb
    refine wpList_append_lies _ hgd s x t ho base e i z k bytes ht hi hz hsize hby hzs hk0 v n xs hs hown ⟨b, off, none⟩ m c (flatR g m) hx (flatR_len k g m hgl) ?_ ?_ h0 (by unfold maxLen; omega) (by omega) hbase _ rfl ?_
    · intro j u hu
      obtain ⟨hj, hv⟩ := flatR_get k g m hgl hk0 j u hu
      have hadd : (⟨b, off, none⟩ : Addr).add j = ⟨b, off + j, none⟩ := by unfold Addr.add; split <;> simp_all
      have hq := (hc _ hj).2 _ u hv
      rw [show off + j / k * k + j % k = off + j by rw [Nat.add_assoc, Nat.mul_comm, Nat.div_add_mod]] at hq
      rw [hadd]
      exact hq
    · intro u hu
      unfold flatR at hu
      rw [List.mem_flatMap] at hu
      obtain ⟨j, hj, hu⟩ := hu
      exact h1 j (List.mem_range.1 hj) u hu
    · intro gg cap w' ho' hg' hat hlt
      refine h _ w' ho' hg' fun q hq => ?_
      have hq' : gg = q := by simpa [Value.ownBlock] using hq
      subst hq'
      rcases hat with h5 | h5
      · exact .inl h5
      · exact .inr (by omega)
theorem OwnT_nil {w : World} {B : Nat} {e : TypeId} : OwnT w B e [] := fun x hx => by cases hx
theorem one_of_slice {v : Value} {w : World} {base : Nat} {e : TypeId} {size n : Nat} {xs : List Value} (h : w.ownsRow base e size v n xs) : v.oneCell' = true := by
  obtain ⟨a, c, rfl⟩ := owns_form h
  rfl
theorem LL.append {w w0 w' : World} {B B' : Nat} {v v2 vv : Value} {T T2 : List (Value × List Int)} (h : LL w0 B v T) (hw : Below w0.heap.size w0 w) (h2 : LL w B' v2 T2) (hB : B ≤ B') (hB2 : w0.heap.size ≤ B')
    (ho : w'.ownsRow B 24 1 vv (T.length + T2.length) (T.map Prod.fst ++ T2.map Prod.fst)) (hg : w.grownBy w' v.ownBlock) (hat : ∀ q, vv.ownBlock = some q → v.ownBlock = some q ∨ w.heap.size ≤ q) : LL w' B vv (T ++ T2) := by
  have h' := h.below hw (Nat.le_refl _)
  have hA := List.pairwise_cons.1 h.2.2
  have hA2 := List.pairwise_cons.1 h2.2.2
  have k1 : ∀ x ∈ T, v.ownBlock = none ∨ ∀ k, x.1.ownBlock = some k → v.ownBlock ≠ some k := fun x hx => .inr fun k hk e => hA.1 x.1 (List.mem_map.2 ⟨x, hx, rfl⟩) k e hk
  have lt0 : ∀ k, v.ownBlock = some k → k < w0.heap.size := fun k hk => (h.1.lt k hk).2
  refine ⟨by rw [List.length_append, List.map_append]; exact ho, fun x hx => ?_, ?_⟩
  · rcases List.mem_append.1 hx with hx | hx
    · refine (h'.2.1 x hx).kept hg ?_
      cases hk : x.1.ownBlock with
      | none => exact .inl rfl
      | some k => exact .inr fun e => hA.1 x.1 (List.mem_map.2 ⟨x, hx, rfl⟩) k e.symm hk
    · refine owns_mono ((h2.2.1 x hx).kept hg ?_) hB
      cases hk : x.1.ownBlock with
      | none => exact .inl rfl
      | some k =>
        refine .inr fun e => ?_
        have := lt0 k e.symm
        have := ((h2.2.1 x hx).lt k hk).1
        omega
  · rw [List.map_append]
    refine List.pairwise_cons.2 ⟨fun z hz => ?_, List.pairwise_append.2 ⟨hA.2, hA2.2, fun a ha b hb => ?_⟩⟩
    · rcases List.mem_append.1 hz with hz | hz
      · intro k e1 e2
        rcases hat k e1 with h5 | h5
        · exact hA.1 z hz k h5 e2
        · obtain ⟨x, hx, rfl⟩ := List.mem_map.1 hz
          have := ((h'.2.1 x hx).lt k e2).2
          omega
      · intro k e1 e2
        obtain ⟨x, hx, rfl⟩ := List.mem_map.1 hz
        have h6 := (h2.2.1 x hx).lt k e2
        rcases hat k e1 with h5 | h5
        · have := lt0 k h5; omega
        · omega
    · intro k e1 e2
      obtain ⟨x, hx, rfl⟩ := List.mem_map.1 ha
      obtain ⟨y, hy, rfl⟩ := List.mem_map.1 hb
      have := ((h.2.1 x hx).lt k e1).2
      have := ((h2.2.1 y hy).lt k e2).1
      omega
def ListsL (w : World) (L : List (List Int)) (e : Ending) (w' : World) : Prop :=
  ∃ v T, e = .returned v ∧ T.map Prod.snd = L ∧ LL w' w.heap.size v T ∧ Below w.heap.size w w'
end Go.Proofs.Ytfkfolglfmmkoaa
set_option linter.unusedVariables false
namespace Go.Proofs.Ytfkfolglfmmkoaa
open Go.RowKit

theorem Try.infoL : (Try.prog.info? 24).map (fun i => (i.zero, i.size, i.bytes)) = some (some (.slice none 0 0), 1, 24) := by kernel_rfl
theorem fresh_ne {w : World} {B : Nat} {e : TypeId} {sz : Nat} {v x : Value} {n : Nat} {xs : List Value} (hx : w.ownsRow B e sz x n xs) (ha : ApartV v x) {g : Nat} (hat : v.ownBlock = some g ∨ w.heap.size ≤ g) : x.ownBlock ≠ some g := fun e1 => by
  rcases hat with h | h
  · exact ha g h e1
  · have := (hx.lt g e1).2; omega
theorem apart_row {v x : Value} (ha : ApartV v x) : ∀ k, x.ownBlock = some k → v.ownBlock ≠ some k := fun k h1 h2 => ha k h2 h1
theorem kept_apart {w w' : World} {B : Nat} {e : TypeId} {sz : Nat} {v x : Value} {n : Nat} {xs : List Value} (hx : w.ownsRow B e sz x n xs) (ha : ApartV v x) (hg : w.grownBy w' v.ownBlock) : w'.ownsRow B e sz x n xs := by
  refine hx.kept hg ?_
  cases hk : x.ownBlock with
  | none => exact .inl rfl
  | some k => exact .inr fun e1 => apart_row ha k hk e1.symm
theorem SplitSt.apart {w : World} {B : Nat} {ov av : Value} {T : List (Int × Value × List Int)} (h : SplitSt w B ov av T) : ApartV ov av ∧ (∀ x ∈ T, ApartV ov x.2.1) ∧ ∀ x ∈ T, ApartV av x.2.1 := by
  have h1 := List.pairwise_cons.1 h.2.2.2
  have h2 := List.pairwise_cons.1 h1.2
  have hm : ∀ x ∈ T, x.2.1 ∈ T.map fun x => x.2.1 := fun x hx => List.mem_map.2 ⟨x, hx, rfl⟩
  exact ⟨h1.1 av (List.mem_cons_self ..), fun x hx => h1.1 _ (List.mem_cons_of_mem _ (hm x hx)), fun x hx => h2.1 _ (hm x hx)⟩
theorem SplitSt.grow1 {w w' : World} {B ga : Nat} {ov av : Value} {T : List (Int × Value × List Int)} (h : SplitSt w B ov av T) (hg : w.grownBy w' av.ownBlock) (hat : av.ownBlock = some ga ∨ w.heap.size ≤ ga) :
    w'.ownsRow B 24 1 ov T.length (T.map fun x => x.2.1) ∧ OwnT w' B 3 T ∧ (∀ x ∈ T, x.2.1.ownBlock ≠ some ga) ∧ ov.ownBlock ≠ some ga := by
  obtain ⟨a1, a2, a3⟩ := h.apart
  exact ⟨kept_apart h.1 a1.symm hg, fun x hx => kept_apart (h.2.2.1 x hx) (a3 x hx) hg, fun x hx => fresh_ne (h.2.2.1 x hx) (a3 x hx) hat, fresh_ne h.1 a1.symm hat⟩
theorem SplitSt.grow2 {w0 w w' : World} {B ga ca na go : Nat} {ov av : Value} {T : List (Int × Value × List Int)} {xs : List Value} (h0 : SplitSt w0 B ov av T) (hov : w.ownsRow B 24 1 ov T.length (T.map fun x => x.2.1)) (hT : OwnT w B 3 T)
    (ha : w.ownsRow B 3 1 (.slice (some ⟨ga, 0, none⟩) na ca) na xs) (hn : ov.ownBlock ≠ some ga) (hg : w.grownBy w' ov.ownBlock) (hat : ov.ownBlock = some go ∨ w.heap.size ≤ go) :
    w'.ownsRow B 3 1 (.slice (some ⟨ga, 0, none⟩) na ca) na xs ∧ OwnT w' B 3 T ∧ (∀ x ∈ T, x.2.1.ownBlock ≠ some go) ∧ go ≠ ga := by
  obtain ⟨a1, a2, a3⟩ := h0.apart
  have a4 : ApartV ov (.slice (some ⟨ga, 0, none⟩) na ca) := fun k h1 h2 => hn (by rw [h1]; simpa [Value.ownBlock] using h2.symm)
  refine ⟨kept_apart ha a4 hg, fun x hx => kept_apart (hT x hx) (a2 x hx) hg, fun x hx => fresh_ne (hT x hx) (a2 x hx) hat, fun e => ?_⟩
  exact fresh_ne ha a4 hat (by rw [e]; rfl)
theorem split_len {V : Nat → Int} {gg : Nat → Int} : ∀ k, (splitP V gg k).length ≤ k
  | 0 => Nat.le_refl _
  | k + 1 => by
    have h : ∀ v t (L : List (Int × List Int)), (insP v t L).length ≤ L.length + 1 := fun v t L => by
      induction L with
      | nil => simp [insP]
      | cons y L ih => unfold insP; split <;> (try split) <;> simp <;> omega
    have := h (V (gg k).toNat) (gg k) (splitP V gg k)
    have := split_len (V := V) (gg := gg) k
    show (insP _ _ _).length ≤ _
    omega
theorem split_lens {V : Nat → Int} {gg : Nat → Int} : ∀ k x, x ∈ splitP V gg k → x.2.length ≤ k
  | 0 => fun x hx => by simp [splitP] at hx
  | k + 1 => by
    have h : ∀ v t m (L : List (Int × List Int)), (∀ x ∈ L, x.2.length ≤ m) → ∀ x ∈ insP v t L, x.2.length ≤ m + 1 := fun v t m L => by
      induction L with
      | nil => intro _ x hx; simp [insP] at hx; subst hx; simp
      | cons y L ih =>
        intro h x hx
        have h0 := h y (List.mem_cons_self ..)
        have h1 := fun z hz => h z (List.mem_cons_of_mem y hz)
        unfold insP at hx
        split at hx
        · rcases List.mem_cons.1 hx with rfl | hx
          · exact Nat.le_succ_of_le h0
          · exact ih h1 x hx
        · split at hx
          · rcases List.mem_cons.1 hx with rfl | hx
            · simp; exact h0
            · exact Nat.le_succ_of_le (h1 x hx)
          · rcases List.mem_cons.1 hx with rfl | hx
            · simp
            · rcases List.mem_cons.1 hx with rfl | hx
              · exact Nat.le_succ_of_le h0
              · exact Nat.le_succ_of_le (h1 x hx)
    exact h _ _ k _ (split_lens k)
def datT (T : List (Int × Value × List Int)) : List (Int × List Int) := T.map fun x => (x.1, x.2.2)
theorem datT_lead (v : Int) (T : List (Int × Value × List Int)) : leadV Prod.fst v (datT T) = leadV Prod.fst v T := by
  induction T with
  | nil => rfl
  | cons y T ih =>
    show leadV Prod.fst v ((y.1, y.2.2) :: datT T) = _
    unfold leadV
    rw [ih]
theorem datT_get {T : List (Int × Value × List Int)} {j : Nat} {x : Int × Value × List Int} (h : T[j]? = some x) : (datT T)[j]? = some (x.1, x.2.2) := by
  unfold datT; rw [List.getElem?_map, h]; rfl
theorem datT_some {T : List (Int × Value × List Int)} {j : Nat} {x : Int × List Int} (h : (datT T)[j]? = some x) : ∃ iv, T[j]? = some (x.1, iv, x.2) := by
  unfold datT at h
  rw [List.getElem?_map] at h
  cases hT : T[j]? with
  | none => rw [hT] at h; cases h
  | some y => rw [hT] at h; simp only [Option.map_some, Option.some.injEq] at h; subst h; exact ⟨y.2.1, rfl⟩
theorem datT_set (T : List (Int × Value × List Int)) (j : Nat) (v : Int) (iv : Value) (p : List Int) : datT (T.set j (v, iv, p)) = (datT T).set j (v, p) := by
  unfold datT; rw [List.map_set]
theorem datT_gap (T : List (Int × Value × List Int)) (j : Nat) (v : Int) (iv : Value) (p : List Int) : datT (gapA T j (v, iv, p)) = gapA (datT T) j (v, p) := by
  unfold datT; rw [gapA_map]
theorem ints_at {w : World} {B n : Nat} {v : Value} {L : List Int} {j : Nat} {x : Int} (h : w.ownsRow B 3 1 v n (L.map (Value.int .i64))) (hj : L[j]? = some x) :
    ∃ g c, v = .slice (some ⟨g, 0, none⟩) n c ∧ n ≤ c ∧ j < n ∧ w.cell? ⟨g, j, none⟩ = some (.int .i64 x) := by
  have hl := h.1
  have hjl : j < L.length := (List.getElem?_eq_some_iff.1 hj).1
  simp at hl
  rcases h.2 with ⟨_, h0⟩ | ⟨g, cap, cur, rfl, hb, hg, hnc, rest⟩
  · omega
  · refine ⟨g, cap, rfl, hnc, by omega, ?_⟩
    rw [h.cellAt j (by omega), List.getElem?_map, hj]
    rfl
theorem vals_at {w : World} {B n : Nat} {e : TypeId} {v : Value} {L : List Value} {j : Nat} {x : Value} (h : w.ownsRow B e 1 v n L) (hj : L[j]? = some x) :
    ∃ g c, v = .slice (some ⟨g, 0, none⟩) n c ∧ n ≤ c ∧ j < n ∧ w.cell? ⟨g, j, none⟩ = some x := by
  have hl := h.1
  have hjl : j < L.length := (List.getElem?_eq_some_iff.1 hj).1
  rcases h.2 with ⟨_, h0⟩ | ⟨g, cap, cur, rfl, hb, hg, hnc, rest⟩
  · omega
  · refine ⟨g, cap, rfl, hnc, by omega, ?_⟩
    rw [h.cellAt j (by omega), hj]
end Go.Proofs.Ytfkfolglfmmkoaa
set_option linter.unusedVariables false
namespace Go.Proofs.Ytfkfolglfmmkoaa
open Go.RowKit

theorem leadV_map {α β : Type} (h : α → β) (f : β → Int) (v : Int) : ∀ L : List α, leadV f v (L.map h) = leadV (fun x => f (h x)) v L
  | [] => rfl
  | y :: L => by
    rw [List.map_cons]
    unfold leadV
    rw [leadV_map h f v L]
def lenS (L : List (Int × List Int)) : Nat := (L.map fun x => x.2.length).sum
theorem insP_sum (v t : Int) : ∀ L, lenS (insP v t L) = lenS L + 1
  | [] => rfl
  | (u, p) :: r => by
    have ih := insP_sum v t r
    unfold lenS at ih ⊢
    unfold insP
    split
    · simp only [List.map_cons, List.sum_cons, ih]; omega
    · split
      · simp only [List.map_cons, List.sum_cons, List.length_append, List.length_cons, List.length_nil]; omega
      · simp only [List.map_cons, List.sum_cons, List.length_cons, List.length_nil]; omega
theorem insP_ne (v t : Int) : ∀ L : List (Int × List Int), (∀ x ∈ L, x.2 ≠ []) → ∀ x ∈ insP v t L, x.2 ≠ []
  | [], _, x, hx => by
    unfold insP at hx
    rw [List.mem_singleton.1 hx]; simp
  | (u, p) :: r, h, x, hx => by
    unfold insP at hx
    have hr : ∀ x ∈ r, x.2 ≠ [] := fun x hx => h x (List.mem_cons_of_mem _ hx)
    split at hx
    · rcases List.mem_cons.1 hx with rfl | hx
      · exact h _ (List.mem_cons_self ..)
      · exact insP_ne v t r hr x hx
    · split at hx
      · rcases List.mem_cons.1 hx with rfl | hx
        · simp
        · exact hr x hx
      · rcases List.mem_cons.1 hx with rfl | hx
        · simp
        · exact h x hx
theorem insP_mem (v t : Int) : ∀ L : List (Int × List Int), ∀ x ∈ insP v t L, ∀ u ∈ x.2, u = t ∨ ∃ y ∈ L, u ∈ y.2
  | [], x, hx, u, hu => by
    unfold insP at hx
    rw [List.mem_singleton.1 hx] at hu
    exact .inl (List.mem_singleton.1 hu)
  | (q, p) :: r, x, hx, u, hu => by
    unfold insP at hx
    split at hx
    · rcases List.mem_cons.1 hx with rfl | hx
      · exact .inr ⟨_, List.mem_cons_self .., hu⟩
      · rcases insP_mem v t r x hx u hu with h | ⟨y, hy, h⟩
        · exact .inl h
        · exact .inr ⟨y, List.mem_cons_of_mem _ hy, h⟩
    · split at hx
      · rcases List.mem_cons.1 hx with rfl | hx
        · rcases List.mem_append.1 hu with h | h
          · exact .inr ⟨_, List.mem_cons_self .., h⟩
          · exact .inl (List.mem_singleton.1 h)
        · exact .inr ⟨x, List.mem_cons_of_mem _ hx, hu⟩
      · rcases List.mem_cons.1 hx with rfl | hx
        · exact .inl (List.mem_singleton.1 hu)
        · exact .inr ⟨x, hx, hu⟩
theorem insP_len (v t : Int) : ∀ L, (insP v t L).length ≤ L.length + 1
  | [] => Nat.le_refl _
  | (u, p) :: r => by
    have ih := insP_len v t r
    unfold insP
    split
    · simp only [List.length_cons]; omega
    · split
      · simp only [List.length_cons]; omega
      · simp only [List.length_cons]; omega
section
variable (V gg : Nat → Int)
theorem splitP_sum : ∀ k, lenS (splitP V gg k) = k
  | 0 => rfl
  | k + 1 => by unfold splitP; rw [insP_sum, splitP_sum k]
theorem splitP_ne : ∀ k, ∀ x ∈ splitP V gg k, x.2 ≠ []
  | 0, x, hx => by cases hx
  | k + 1, x, hx => insP_ne _ _ _ (splitP_ne k) x hx
theorem splitP_mem : ∀ k, ∀ x ∈ splitP V gg k, ∀ u ∈ x.2, ∃ i, i < k ∧ u = gg i
  | 0, x, hx => by cases hx
  | k + 1, x, hx => fun u hu => by
    rcases insP_mem _ _ _ x hx u hu with h | ⟨y, hy, h⟩
    · exact ⟨k, Nat.lt_succ_self _, h⟩
    · obtain ⟨i, hi, e⟩ := splitP_mem k y hy u h
      exact ⟨i, by omega, e⟩
theorem splitP_len : ∀ k, (splitP V gg k).length ≤ k
  | 0 => Nat.le_refl _
  | k + 1 => by unfold splitP; have := insP_len (V (gg k).toNat) (gg k) (splitP V gg k); have := splitP_len k; omega
theorem splitP_congr {V' gg' : Nat → Int} : ∀ k, (∀ i, i < k → gg i = gg' i) → (∀ i, V i = V' i) → splitP V gg k = splitP V' gg' k
  | 0, _, _ => rfl
  | k + 1, h, hV => by
    unfold splitP
    rw [splitP_congr k (fun i hi => h i (by omega)) hV, h k (Nat.lt_succ_self _), hV]
end
theorem part_le {L : List (Int × List Int)} {x : Int × List Int} (h : x ∈ L) : x.2.length ≤ lenS L := by
  induction L with
  | nil => cases h
  | cons y L ih =>
    unfold lenS at ih ⊢
    rw [List.map_cons, List.sum_cons]
    rcases List.mem_cons.1 h with rfl | h
    · omega
    · have := ih h; omega
theorem sum_pos {L : List (Int × List Int)} (hne : ∀ x ∈ L, x.2 ≠ []) (h : L ≠ []) : 0 < lenS L := by
  cases L with
  | nil => exact absurd rfl h
  | cons y L =>
    unfold lenS
    rw [List.map_cons, List.sum_cons]
    have := List.length_pos_iff.2 (hne y (List.mem_cons_self ..))
    omega
theorem part_lt {L : List (Int × List Int)} {x : Int × List Int} (hne : ∀ x ∈ L, x.2 ≠ []) (h : x ∈ L) (hl : 1 < L.length) : x.2.length < lenS L := by
  cases L with
  | nil => cases h
  | cons y L =>
    have hL : L ≠ [] := by intro e; subst e; simp at hl
    have hp := sum_pos (fun x hx => hne x (List.mem_cons_of_mem _ hx)) hL
    have hy := List.length_pos_iff.2 (hne y (List.mem_cons_self ..))
    rcases List.mem_cons.1 h with rfl | h
    · unfold lenS at hp ⊢; rw [List.map_cons, List.sum_cons]; omega
    · have := part_le h
      unfold lenS at this ⊢; rw [List.map_cons, List.sum_cons]; omega
def partsL (b : BookD) (key : Int) (gg : Nat → Int) (n : Nat) : List (List Int) := (splitP (bookV b key gg n) gg n).map Prod.snd
theorem partsL_le {b : BookD} {key : Int} {gg : Nat → Int} {n : Nat} {p : List Int} (h : p ∈ partsL b key gg n) : p.length ≤ n := by
  obtain ⟨x, hx, rfl⟩ := List.mem_map.1 h
  have := part_le hx
  rw [splitP_sum] at this
  exact this
theorem partsL_lt {b : BookD} {key : Int} {gg : Nat → Int} {n : Nat} {p : List Int} (h : p ∈ partsL b key gg n) (hl : 1 < (partsL b key gg n).length) : p.length < n := by
  obtain ⟨x, hx, rfl⟩ := List.mem_map.1 h
  have := part_lt (splitP_ne _ _ _) hx (by unfold partsL at hl; rwa [List.length_map] at hl)
  rw [splitP_sum] at this
  exact this
theorem partsL_ne {b : BookD} {key : Int} {gg : Nat → Int} {n : Nat} {p : List Int} (h : p ∈ partsL b key gg n) : p ≠ [] := by
  obtain ⟨x, hx, rfl⟩ := List.mem_map.1 h
  exact splitP_ne _ _ _ x hx
theorem partsL_mem {b : BookD} {key : Int} {gg : Nat → Int} {n : Nat} {p : List Int} (h : p ∈ partsL b key gg n) : ∀ u ∈ p, ∃ i, i < n ∧ u = gg i := by
  obtain ⟨x, hx, rfl⟩ := List.mem_map.1 h
  exact splitP_mem _ _ _ x hx
theorem partsL_len {b : BookD} {key : Int} {gg : Nat → Int} {n : Nat} : (partsL b key gg n).length ≤ n := by
  unfold partsL; rw [List.length_map]; exact splitP_len _ _ _
def rankM (nl n s : Nat) : Nat := n * (nl + 1) + (nl - s)
def nextS (b : BookD) (m s : Nat) : Nat := if 1 < m ∧ b.again = true ∧ mutualB (b.l s) = true then 0 else s + 1
def rankF (b : BookD) : Nat → List Int → Nat → List (List Int)
  | 0, _, _ => []
  | f + 1, G, s => if G = [] then [] else if G.length = 1 ∨ b.nl ≤ s then [G] else
      (partsL b (b.l s) (getI G) G.length).flatMap fun p => rankF b f p (nextS b (partsL b (b.l s) (getI G) G.length).length s)
theorem rankM_lt {b : BookD} {G p : List Int} {s : Nat} (hs : s < b.nl) (h : p ∈ partsL b (b.l s) (getI G) G.length) :
    rankM b.nl p.length (nextS b (partsL b (b.l s) (getI G) G.length).length s) < rankM b.nl G.length s := by
  unfold rankM nextS
  have h1 := partsL_le h
  split
  · next hh =>
    have h2 := partsL_lt h hh.1
    have h3 : (p.length + 1) * (b.nl + 1) ≤ G.length * (b.nl + 1) := Nat.mul_le_mul_right _ h2
    have h4 : (p.length + 1) * (b.nl + 1) = p.length * (b.nl + 1) + (b.nl + 1) := Nat.succ_mul _ _
    omega
  · have h3 : p.length * (b.nl + 1) ≤ G.length * (b.nl + 1) := Nat.mul_le_mul_right _ h1
    omega
theorem rankF_fuel (b : BookD) : ∀ f f' G s, rankM b.nl G.length s < f → rankM b.nl G.length s < f' → rankF b f G s = rankF b f' G s
  | 0, _, _, _, h, _ => absurd h (Nat.not_lt_zero _)
  | _ + 1, 0, _, _, _, h => absurd h (Nat.not_lt_zero _)
  | f + 1, f' + 1, G, s, h, h' => by
    unfold rankF
    by_cases hG : G = []
    · rw [if_pos hG, if_pos hG]
    · rw [if_neg hG, if_neg hG]
      by_cases hs : G.length = 1 ∨ b.nl ≤ s
      · rw [if_pos hs, if_pos hs]
      · rw [if_neg hs, if_neg hs, List.flatMap_def, List.flatMap_def]
        congr 1
        refine List.map_congr_left fun p hp => ?_
        have := rankM_lt (b := b) (s := s) (by omega) hp
        exact rankF_fuel b f f' p _ (by omega) (by omega)
def rankP (b : BookD) (G : List Int) (s : Nat) : List (List Int) := rankF b (rankM b.nl G.length s + 1) G s
theorem rankP_nil (b : BookD) (s : Nat) : rankP b [] s = [] := by
  unfold rankP rankF; rw [if_pos rfl]
theorem rankP_one (b : BookD) {G : List Int} {s : Nat} (hG : G ≠ []) (h : G.length = 1 ∨ b.nl ≤ s) : rankP b G s = [G] := by
  unfold rankP rankF; rw [if_neg hG, if_pos h]
theorem rankP_step (b : BookD) {G : List Int} {s : Nat} (hG : G ≠ []) (h1 : G.length ≠ 1) (hs : s < b.nl) :
    rankP b G s = (partsL b (b.l s) (getI G) G.length).flatMap fun p => rankP b p (nextS b (partsL b (b.l s) (getI G) G.length).length s) := by
  unfold rankP
  conv => lhs; unfold rankF
  rw [if_neg hG, if_neg (by omega), List.flatMap_def, List.flatMap_def]
  congr 1
  refine List.map_congr_left fun p hp => ?_
  exact rankF_fuel b _ _ p _ (rankM_lt hs hp) (Nat.lt_succ_self _)
end Go.Proofs.Ytfkfolglfmmkoaa
set_option linter.unusedVariables false
namespace Go.Proofs.Ytfkfolglfmmkoaa
open Go.RowKit

theorem rankP_ind (b : BookD) {P : List Int → Nat → List (List Int) → Prop} (h0 : ∀ s, P [] s []) (h1 : ∀ G s, G ≠ [] → (G.length = 1 ∨ b.nl ≤ s) → P G s [G])
    (h2 : ∀ G s, G ≠ [] → G.length ≠ 1 → s < b.nl → (∀ p ∈ partsL b (b.l s) (getI G) G.length, P p (nextS b (partsL b (b.l s) (getI G) G.length).length s) (rankP b p (nextS b (partsL b (b.l s) (getI G) G.length).length s))) → P G s (rankP b G s)) : ∀ G s, P G s (rankP b G s) := by
  have H : ∀ m G s, rankM b.nl G.length s < m → P G s (rankP b G s) := by
    intro m
    induction m with
    | zero => intro G s h; exact absurd h (Nat.not_lt_zero _)
    | succ m ih =>
      intro G s h
      by_cases hG : G = []
      · subst hG; rw [rankP_nil]; exact h0 s
      by_cases hs : G.length = 1 ∨ b.nl ≤ s
      · rw [rankP_one b hG hs]; exact h1 G s hG hs
      · exact h2 G s hG (by omega) (by omega) fun p hp => ih p _ (by have := rankM_lt (b := b) (G := G) (s := s) (by omega) hp; omega)
  exact fun G s => H _ G s (Nat.lt_succ_self _)
theorem parts_sum (b : BookD) (key : Int) (gg : Nat → Int) (n : Nat) : ((partsL b key gg n).map List.length).sum = n := by
  have h := splitP_sum (bookV b key gg n) gg n
  unfold lenS at h
  unfold partsL
  rw [List.map_map]
  exact h
theorem flat_le {f g : List Int → Nat} : ∀ (L : List (List Int)), (∀ p ∈ L, f p ≤ g p) → (L.map f).sum ≤ (L.map g).sum
  | [], _ => Nat.le_refl _
  | p :: L, h => by
    have h1 := flat_le (f := f) (g := g) L fun q hq => h q (List.mem_cons_of_mem _ hq)
    have h2 := h p (List.mem_cons_self ..)
    simp only [List.map_cons, List.sum_cons]
    omega
theorem rankP_len (b : BookD) : ∀ G s, (rankP b G s).length ≤ G.length := by
  refine rankP_ind b (P := fun G _ L => L.length ≤ G.length) (fun s => by simp) (fun G s hG _ => ?_) fun G s hG h1 hs ih => ?_
  · have := List.length_pos_iff.2 hG
    simp; omega
  · show (rankP b G s).length ≤ G.length
    rw [rankP_step b hG h1 hs, List.length_flatMap]
    refine Nat.le_trans (flat_le (g := List.length) _ fun p hp => ih p hp) ?_
    rw [parts_sum]
    exact Nat.le_refl _
theorem take_flat {α β : Type} (f : α → List β) (L : List α) (k : Nat) : ((L.take k).flatMap f).length ≤ (L.flatMap f).length := by
  conv => rhs; rw [← List.take_append_drop k L, List.flatMap_append, List.length_append]
  omega
theorem take_flat_succ {α β : Type} (f : α → List β) (L : List α) (k : Nat) {x : α} (h : L[k]? = some x) : (L.take (k + 1)).flatMap f = (L.take k).flatMap f ++ f x := by
  obtain ⟨hk, rfl⟩ := List.getElem?_eq_some_iff.1 h
  rw [← List.take_append_getElem hk, List.flatMap_append]
  simp
theorem getI_range (G : List Int) : ((List.range G.length).map fun j => Value.int .i64 (getI G j)) = G.map (Value.int .i64) := by
  apply List.ext_getElem?
  intro j
  rw [List.getElem?_map, List.getElem?_map]
  by_cases hj : j < G.length
  · rw [List.getElem?_range hj, List.getElem?_eq_getElem hj]
    simp [getI, hj]
  · rw [List.getElem?_eq_none (by simp; omega), List.getElem?_eq_none (by omega)]
    rfl
theorem LL.rec {w : World} {B : Nat} {v : Value} {T : List (Value × List Int)} (h : LL w B v T) (hn : T.length ≤ 9223372036854775807) :
    ∃ g, RecRow 1 w v T.length g ∧ (∀ i, i < T.length → (g i).length = 1) ∧ (∀ i, i < T.length → ∀ u ∈ g i, u.oneCell' = true) ∧ flatR g T.length = T.map Prod.fst := by
  refine ⟨fun i => [(T.map Prod.fst).getD i undef], RecRow.of_owns h.1 hn (fun i hi j u hu => ?_) (fun _ _ => by simp), fun _ _ => by simp, fun i hi u hu => ?_, ?_⟩
  · cases j with
    | zero =>
      simp only [List.getElem?_cons_zero, Option.some.injEq] at hu
      subst hu
      rw [Nat.mul_one, Nat.add_zero, List.getD_eq_getElem?_getD, List.getElem?_eq_getElem (by simpa using hi)]
      rfl
    | succ j => simp at hu
  · rw [List.mem_singleton.1 hu, List.getD_eq_getElem?_getD, List.getElem?_eq_getElem (by simpa using hi)]
    simp only [List.getElem_map, Option.getD_some]
    exact one_of_slice (h.2.1 _ (List.getElem_mem hi))
  · unfold flatR
    apply List.ext_getElem?
    intro j
    have e : ∀ n, (List.range n).flatMap (fun i => [(T.map Prod.fst).getD i undef]) = (List.range n).map fun i => (T.map Prod.fst).getD i undef := fun n => by
      induction n with
      | zero => rfl
      | succ n ih => rw [List.range_succ, List.flatMap_append, List.map_append, ih]; simp
    rw [e, List.getElem?_map]
    by_cases hj : j < T.length
    · rw [List.getElem?_range hj]
      simp [hj]
    · rw [List.getElem?_eq_none (by simp; omega), List.getElem?_eq_none (by simp; omega)]
      rfl
theorem LL.nil {w : World} : LL (w.alloc (.cells #[] 24)) w.heap.size (.slice (some ⟨w.heap.size, 0, none⟩) 0 0) [] :=
  ⟨World.ownsRow_lit (e := 24) (size := 1) w #[] 0 (Nat.le_refl _) (by decide) rfl, ⟨(fun x hx => by cases hx), (by unfold ApartL; simp)⟩⟩
theorem LL.one {w : World} {B : Nat} {v : Value} {G : List Int} (h : w.ownsRow B 3 1 v G.length (G.map (Value.int .i64))) (hB : B ≤ w.heap.size) : LL (w.alloc (.cells #[v] 24)) B (.slice (some ⟨w.heap.size, 0, none⟩) 1 1) [(v, G)] := by
  refine ⟨owns_mono (World.ownsRow_lit (e := 24) (size := 1) w #[v] 1 (Nat.le_refl _) (by decide) rfl) hB, fun x hx => ?_, ?_⟩
  · rw [List.mem_singleton.1 hx]
    exact h.alloc _
  · refine List.pairwise_cons.2 ⟨fun z hz => ?_, by simp⟩
    rw [List.mem_singleton.1 hz]
    intro k h1 h2
    have := (h.lt k h2).2
    have h3 : w.heap.size = k := by simpa [Value.ownBlock] using h1
    omega
end Go.Proofs.Ytfkfolglfmmkoaa
set_option linter.unusedVariables false
namespace Go.Proofs.Ytfkfolglfmmkoaa
open Go.RowKit

def fromP (b : BookD) (n : Nat) (gg : Nat → Int) (z : Int) : Prop := bookP b ∧ teamsP b.nf n gg ∧ 0 ≤ z ∧ ∀ i, i < n → ¬ hasP gg (gg i) i
theorem ListsL.none {w w' : World} (h : Below w.heap.size w w') : ListsL w [] (.returned (.slice none 0 0)) w' :=
  ⟨_, [], rfl, rfl, ⟨⟨rfl, .inl ⟨rfl, rfl⟩⟩, (fun x hx => by cases hx), (by unfold ApartL; simp)⟩, h⟩
def allL (n : Nat) : List Int := valsL (fun i => (i : Int)) n
theorem allL_len (n : Nat) : (allL n).length = n := by unfold allL valsL; simp
theorem allL_get {n i : Nat} (h : i < n) : getI (allL n) i = i := by unfold allL valsL getI; simp [h]
theorem all_from {b : BookD} : fromP b (allL b.nf).length (getI (allL b.nf)) 0 ↔ bookP b := by
  rw [allL_len]
  refine ⟨fun h => h.1, fun h => ⟨h, fun i hi => by rw [allL_get hi]; omega, Int.le_refl _, fun i hi ⟨j, hj, e⟩ => ?_⟩⟩
  rw [allL_get hi, allL_get (by omega)] at e
  omega
def orderL (L : List (List Int)) : List Int := if ∀ p ∈ L, p.length = 1 then L.flatten else []
theorem flat_ones : ∀ (L : List (List Int)), (∀ p ∈ L, p.length = 1) → L.flatten.length = L.length
  | [], _ => rfl
  | p :: L, h => by
    rw [List.flatten_cons, List.length_append, h p (List.mem_cons_self ..), flat_ones L fun q hq => h q (List.mem_cons_of_mem _ hq)]
    simp; omega
theorem LL.kept {w w' : World} {B : Nat} {v : Value} {T : List (Value × List Int)} {row : Option Nat} (h : LL w B v T) (hg : w.grownBy w' row) (h1 : ∀ q, row = some q → Hid (v.ownBlock ≠ some q ∧ ∀ x ∈ T, x.1.ownBlock ≠ some q)) : LL w' B v T := by
  refine ⟨h.1.kept hg ?_, fun x hx => (h.2.1 x hx).kept hg ?_, h.2.2⟩
  · cases hr : row with
    | none => cases hv : v.ownBlock with
      | none => exact .inl rfl
      | some q => exact .inr (by simp)
    | some q => exact .inr fun e => (h1 q hr).out.1 e
  · cases hr : row with
    | none => cases hv : x.1.ownBlock with
      | none => exact .inl rfl
      | some q => exact .inr (by simp)
    | some q => exact .inr fun e => (h1 q hr).out.2 x hx e
theorem IntsL.none {w w' : World} (h : Below w.heap.size w w') : IntsL w [] (.returned (.slice none 0 0)) w' :=
  ⟨_, rfl, ⟨rfl, .inl ⟨rfl, rfl⟩⟩, h⟩
end Go.Proofs.Ytfkfolglfmmkoaa
set_option linter.unusedVariables false
namespace Go.Proofs.Ytfkfolglfmmkoaa
open Go.RowKit

theorem insP_perm (v t : Int) : ∀ L : List (Int × List Int), ((insP v t L).flatMap Prod.snd).Perm (t :: L.flatMap Prod.snd)
  | [] => by simp [insP]
  | (u, p) :: r => by
    unfold insP
    split
    · simp only [List.flatMap_cons]
      exact ((insP_perm v t r).append_left p).trans List.perm_middle
    · split
      · simp only [List.flatMap_cons]
        rw [List.append_assoc]
        exact List.perm_middle
      · simp
theorem splitP_perm (V gg : Nat → Int) : ∀ k, ((splitP V gg k).flatMap Prod.snd).Perm ((List.range k).map gg)
  | 0 => by simp [splitP]
  | k + 1 => by
    unfold splitP
    rw [List.range_succ, List.map_append]
    exact (insP_perm _ _ _).trans (((splitP_perm V gg k).cons _).trans (List.perm_append_singleton _ _).symm)
theorem range_getI (G : List Int) : (List.range G.length).map (getI G) = G := by
  apply List.ext_getElem?
  intro j
  rw [List.getElem?_map]
  by_cases hj : j < G.length
  · rw [List.getElem?_range hj]; simp [getI, hj]
  · rw [List.getElem?_eq_none (by simp; omega), List.getElem?_eq_none (by omega)]; rfl
theorem parts_perm (b : BookD) (key : Int) (G : List Int) : (partsL b key (getI G) G.length).flatten.Perm G := by
  have h := splitP_perm (bookV b key (getI G) G.length) (getI G) G.length
  rw [range_getI] at h
  unfold partsL
  rw [← List.flatMap_def]
  exact h
theorem insP_val {V : Nat → Int} {v t : Int} (ht : V t.toNat = v) : ∀ L : List (Int × List Int), (∀ x ∈ L, ∀ u ∈ x.2, V u.toNat = x.1) → ∀ x ∈ insP v t L, ∀ u ∈ x.2, V u.toNat = x.1
  | [], _, x, hx, u, hu => by
    unfold insP at hx
    rw [List.mem_singleton.1 hx] at hu ⊢
    rw [List.mem_singleton.1 hu]; exact ht
  | (q, p) :: r, h, x, hx, u, hu => by
    have hr : ∀ x ∈ r, ∀ u ∈ x.2, V u.toNat = x.1 := fun x hx => h x (List.mem_cons_of_mem _ hx)
    have h0 := h (q, p) (List.mem_cons_self ..)
    unfold insP at hx
    split at hx
    · rcases List.mem_cons.1 hx with rfl | hx
      · exact h0 u hu
      · exact insP_val ht r hr x hx u hu
    · split at hx
      · next hq =>
        rcases List.mem_cons.1 hx with rfl | hx
        · rcases List.mem_append.1 hu with hu | hu
          · exact h0 u hu
          · rw [List.mem_singleton.1 hu, ht]; exact hq.symm
        · exact hr x hx u hu
      · rcases List.mem_cons.1 hx with rfl | hx
        · rw [List.mem_singleton.1 hu]; exact ht
        · exact h x hx u hu
theorem splitP_val (V gg : Nat → Int) : ∀ k, ∀ x ∈ splitP V gg k, ∀ u ∈ x.2, V u.toNat = x.1
  | 0, x, hx => by cases hx
  | k + 1, x, hx => insP_val rfl _ (splitP_val V gg k) x hx
theorem insP_fst {v t : Int} : ∀ L : List (Int × List Int), ∀ x ∈ insP v t L, x.1 = v ∨ ∃ y ∈ L, y.1 = x.1
  | [], x, hx => by unfold insP at hx; rw [List.mem_singleton.1 hx]; exact .inl rfl
  | (q, p) :: r, x, hx => by
    unfold insP at hx
    split at hx
    · rcases List.mem_cons.1 hx with rfl | hx
      · exact .inr ⟨_, List.mem_cons_self .., rfl⟩
      · rcases insP_fst r x hx with h | ⟨y, hy, h⟩
        · exact .inl h
        · exact .inr ⟨y, List.mem_cons_of_mem _ hy, h⟩
    · split at hx
      · rcases List.mem_cons.1 hx with rfl | hx
        · exact .inr ⟨_, List.mem_cons_self .., rfl⟩
        · exact .inr ⟨x, List.mem_cons_of_mem _ hx, rfl⟩
      · rcases List.mem_cons.1 hx with rfl | hx
        · exact .inl rfl
        · exact .inr ⟨x, hx, rfl⟩
theorem insP_desc {v t : Int} : ∀ L : List (Int × List Int), L.Pairwise (fun a b => b.1 < a.1) → (insP v t L).Pairwise (fun a b => b.1 < a.1)
  | [], _ => by simp [insP]
  | (q, p) :: r, h => by
    have h1 := List.pairwise_cons.1 h
    unfold insP
    split
    · next hv =>
      refine List.pairwise_cons.2 ⟨fun x hx => ?_, insP_desc r h1.2⟩
      rcases insP_fst r x hx with e | ⟨y, hy, e⟩
      · rw [e]; exact hv
      · rw [← e]; exact h1.1 y hy
    · split
      · exact List.pairwise_cons.2 ⟨h1.1, h1.2⟩
      · next hv hq =>
        refine List.pairwise_cons.2 ⟨fun x hx => ?_, h⟩
        rcases List.mem_cons.1 hx with rfl | hx
        · show q < v; omega
        · have := h1.1 x hx
          show x.1 < v
          have h3 : x.1 < q := this
          omega
theorem splitP_desc (V gg : Nat → Int) : ∀ k, (splitP V gg k).Pairwise (fun a b => b.1 < a.1)
  | 0 => List.Pairwise.nil
  | k + 1 => insP_desc _ (splitP_desc V gg k)
theorem flat_flat {α β : Type} (f : α → List (List β)) : ∀ L : List α, (L.flatMap f).flatten = L.flatMap fun x => (f x).flatten
  | [] => rfl
  | x :: L => by rw [List.flatMap_cons, List.flatten_append, List.flatMap_cons, flat_flat f L]
theorem flat_perm {f : List Int → List Int} : ∀ L : List (List Int), (∀ p ∈ L, (f p).Perm p) → (L.flatMap f).Perm L.flatten
  | [], _ => List.Perm.refl _
  | p :: L, h => by
    rw [List.flatMap_cons, List.flatten_cons]
    exact (h p (List.mem_cons_self ..)).append (flat_perm L fun q hq => h q (List.mem_cons_of_mem _ hq))
theorem rank_perm (b : BookD) : ∀ G s, (rankP b G s).flatten.Perm G := by
  refine rankP_ind b (P := fun G _ L => L.flatten.Perm G) (fun s => by simp) (fun G s _ _ => by simp) fun G s hG h1 hs ih => ?_
  show (rankP b G s).flatten.Perm G
  rw [rankP_step b hG h1 hs, flat_flat]
  exact (flat_perm _ fun p hp => ih p hp).trans (parts_perm b _ G)
def seedI (b : BookD) : Prop := ∀ i j, i < b.nf → j < b.nf → ∀ gg n, bookV b 8 gg n i = bookV b 8 gg n j → i = j
theorem same_one {p : List Int} {V : Nat → Int} {v : Int} {n : Nat} (hne : p ≠ []) (hnd : p.Nodup) (hv : ∀ u ∈ p, V u.toNat = v) (hin : ∀ u ∈ p, 0 ≤ u ∧ u < (n : Int)) (hV : ∀ i j, i < n → j < n → V i = V j → i = j) : p.length = 1 := by
  match p, hne, hnd, hv, hin with
  | [], h, _, _, _ => exact absurd rfl h
  | [x], _, _, _, _ => rfl
  | x :: y :: r, _, hnd, hv, hin =>
    have hx := hin x (List.mem_cons_self ..)
    have hy := hin y (List.mem_cons_of_mem _ (List.mem_cons_self ..))
    have e := hV x.toNat y.toNat (by omega) (by omega) ((hv x (List.mem_cons_self ..)).trans (hv y (List.mem_cons_of_mem _ (List.mem_cons_self ..))).symm)
    have : x = y := by omega
    subst this
    simp at hnd
theorem parts_in {b : BookD} {key : Int} {G p : List Int} (hp : p ∈ partsL b key (getI G) G.length) : ∀ u ∈ p, u ∈ G := fun u hu => by
  have h := parts_perm b key G
  exact h.mem_iff.1 (List.mem_flatten.2 ⟨p, hp, hu⟩)
theorem parts_nodup {b : BookD} {key : Int} {G p : List Int} (hG : G.Nodup) (hp : p ∈ partsL b key (getI G) G.length) : p.Nodup := by
  have h := (parts_perm b key G).nodup_iff.2 hG
  exact (List.pairwise_flatten.1 h).1 p hp
theorem rank_ones (b : BookD) (hsd : seedI b) : ∀ G s, G.Nodup → (∀ u ∈ G, 0 ≤ u ∧ u < (b.nf : Int)) → (∃ j, s ≤ j ∧ j < b.nl ∧ b.l j = 8) → ∀ p ∈ rankP b G s, p.length = 1 := by
  refine rankP_ind b (P := fun G s L => G.Nodup → (∀ u ∈ G, 0 ≤ u ∧ u < (b.nf : Int)) → (∃ j, s ≤ j ∧ j < b.nl ∧ b.l j = 8) → ∀ p ∈ L, p.length = 1) (fun s _ _ _ p hp => by cases hp) (fun G s hG h1 _ _ hj p hp => ?_) fun G s hG h1 hs ih hnd hin hj => ?_
  · obtain ⟨j, hj1, hj2, _⟩ := hj
    rw [List.mem_singleton.1 hp]
    rcases h1 with h1 | h1
    · exact h1
    · omega
  · show ∀ p ∈ rankP b G s, p.length = 1
    rw [rankP_step b hG h1 hs]
    intro q hq
    obtain ⟨p, hp, hqp⟩ := List.mem_flatMap.1 hq
    have hpn := parts_nodup hnd hp
    have hpi : ∀ u ∈ p, 0 ≤ u ∧ u < (b.nf : Int) := fun u hu => hin u (parts_in hp u hu)
    by_cases h8 : b.l s = 8
    · have hp1 : p.length = 1 := by
        obtain ⟨x, hx, rfl⟩ := List.mem_map.1 hp
        rw [h8] at hx
        exact same_one (partsL_ne hp) hpn (splitP_val _ _ _ x hx) hpi fun i j hi hj => hsd i j hi hj _ _
      rw [rankP_one b (partsL_ne hp) (.inl hp1)] at hqp
      rw [List.mem_singleton.1 hqp]; exact hp1
    · refine ih p hp hpn hpi ?_ q hqp
      obtain ⟨j, hj1, hj2, hj3⟩ := hj
      refine ⟨j, ?_, hj2, hj3⟩
      unfold nextS
      split
      · exact Nat.zero_le _
      · rcases Nat.lt_or_ge s j with h | h
        · exact h
        · have : s = j := by omega
          subst this
          exact absurd hj3 h8
theorem flat_desc {V : Nat → Int} {f : List Int → List Int} : ∀ L : List (Int × List Int), L.Pairwise (fun a b => b.1 < a.1) → (∀ x ∈ L, ∀ u ∈ f x.2, V u.toNat = x.1) → (L.flatMap fun x => f x.2).Pairwise (fun a b => V b.toNat ≤ V a.toNat)
  | [], _, _ => List.Pairwise.nil
  | x :: L, h, hv => by
    have h1 := List.pairwise_cons.1 h
    rw [List.flatMap_cons]
    refine List.pairwise_append.2 ⟨?_, flat_desc L h1.2 fun y hy => hv y (List.mem_cons_of_mem _ hy), fun a ha c hc => ?_⟩
    · have hx := hv x (List.mem_cons_self ..)
      refine List.Pairwise.imp_of_mem (R := fun _ _ => True) (fun ha hb _ => ?_) (List.pairwise_of_forall fun _ _ => trivial)
      rw [hx _ ha, hx _ hb]
      exact Int.le_refl _
    · obtain ⟨y, hy, hcy⟩ := List.mem_flatMap.1 hc
      rw [hv x (List.mem_cons_self ..) a ha, hv y (List.mem_cons_of_mem _ hy) c hcy]
      exact Int.le_of_lt (h1.1 y hy)
theorem rank_desc (b : BookD) (G : List Int) (h0 : 0 < b.nl) : (rankP b G 0).flatten.Pairwise fun x y => bookV b (b.l 0) (getI G) G.length y.toNat ≤ bookV b (b.l 0) (getI G) G.length x.toNat := by
  by_cases hG : G = []
  · subst hG; rw [rankP_nil]; exact List.Pairwise.nil
  by_cases h1 : G.length = 1
  · rw [rankP_one b hG (.inl h1)]
    obtain ⟨x, rfl⟩ := List.length_eq_one_iff.1 h1
    simp
  · rw [rankP_step b hG h1 h0, flat_flat]
    generalize hn : nextS b (partsL b (b.l 0) (getI G) G.length).length 0 = nx
    unfold partsL
    rw [List.flatMap_map]
    refine flat_desc (f := fun p => (rankP b p nx).flatten) _ (splitP_desc _ _ _) fun x hx u hu => ?_
    exact splitP_val _ _ _ x hx u ((rank_perm b x.2 nx).mem_iff.1 hu)
def rankAt (t : Int) : List (List Int) → Nat → Int
  | [], _ => 0
  | p :: L, n => if t ∈ p then n else rankAt t L (n + p.length)
theorem rankAt_ones {t : Int} : ∀ (L : List (List Int)) (i n : Nat), (∀ p ∈ L, p.length = 1) → L.flatten.Nodup → L.flatten[i]? = some t → rankAt t L n = ((n + i : Nat) : Int)
  | [], i, n, _, _, h => by simp at h
  | p :: L, i, n, h1, hnd, h => by
    obtain ⟨x, rfl⟩ := List.length_eq_one_iff.1 (h1 p (List.mem_cons_self ..))
    unfold rankAt
    rw [List.flatten_cons] at h hnd
    cases i with
    | zero =>
      simp at h
      subst h
      simp
    | succ i =>
      have h2 : L.flatten[i]? = some t := by simpa using h
      have hm := List.mem_of_getElem? h2
      have hx : t ∉ [x] := fun e => by
        rw [List.mem_singleton.1 e] at hm
        simp at hnd
        exact absurd hm (by simpa using hnd.1)
      rw [if_neg hx, rankAt_ones L i _ (fun q hq => h1 q (List.mem_cons_of_mem _ hq)) (by simp at hnd; exact hnd.2) h2]
      show (((n + [x].length + i : Nat)) : Int) = _
      simp
      omega
end Go.Proofs.Ytfkfolglfmmkoaa
