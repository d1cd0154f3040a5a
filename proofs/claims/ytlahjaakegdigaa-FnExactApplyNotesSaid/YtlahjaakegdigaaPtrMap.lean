/-
  A map[int]*T whose pointers lead to the records (7 cells each) of one row, or are nil: laws of our own over any program.
-/
import Derived.Test.YtlahjaakegdigaaMaps
set_option linter.unusedVariables false
namespace Go.Proofs.Ytlahjaakegdigaa
open Go.RowKit Go.Maps

/-- a pointer to record number i of the row at block b, offset o; nil where i is negative -/
def ptrV (b o : Nat) (i : Int) : Value := if i < 0 then .pointer none else .pointer (some ⟨b, o + i.toNat * 7, none⟩)
theorem ptrV_neg {b o : Nat} {i : Int} (h : i < 0) : ptrV b o i = .pointer none := if_pos h
theorem ptrV_nat (b o j : Nat) : ptrV b o (j : Int) = .pointer (some ⟨b, o + j * 7, none⟩) := by
  unfold ptrV; rw [if_neg (by omega)]; simp
/-- such a pointer read as its number -/
def ptrElem (b o : Nat) (v : Value) : Option (DataW Unit × List MemPlace) :=
  match v with
  | .pointer none => some (.lit (.int .i64 (-1)), [])
  | .pointer (some ⟨b', o', none⟩) => if b' = b ∧ o ≤ o' ∧ (o' - o) % 7 = 0 then some (.lit (.int .i64 (((o' - o) / 7 : Nat) : Int)), []) else none
  | _ => none
theorem ptrElem_mk (b o : Nat) {i : Int} (h : -1 ≤ i) : ptrElem b o (ptrV b o i) = some (.lit (.int .i64 i), []) := by
  by_cases h0 : i < 0
  · obtain rfl : i = -1 := by omega
    rw [ptrV_neg h0]; rfl
  · obtain ⟨j, rfl⟩ : ∃ j : Nat, i = (j : Int) := ⟨i.toNat, by omega⟩
    rw [ptrV_nat]
    unfold ptrElem
    have e1 : o + j * 7 - o = j * 7 := by omega
    simp [e1]
theorem ptrElem_inv {b o : Nat} {v : Value} {z : DataW Unit × List MemPlace} (h : ptrElem b o v = some z) : ∃ i : Int, -1 ≤ i ∧ v = ptrV b o i ∧ z = (.lit (.int .i64 i), []) := by
  unfold ptrElem at h
  split at h
  · exact ⟨-1, by omega, (ptrV_neg (by omega)).symm, (Option.some.inj h).symm⟩
  · rename_i b' o'
    by_cases hc : b' = b ∧ o ≤ o' ∧ (o' - o) % 7 = 0
    · rw [if_pos hc] at h
      obtain ⟨rfl, h1, h2⟩ := hc
      refine ⟨((o' - o) / 7 : Nat), by omega, ?_, (Option.some.inj h).symm⟩
      rw [ptrV_nat]
      have : o + (o' - o) / 7 * 7 = o' := by omega
      rw [this]
    · rw [if_neg hc] at h; cases h
  · cases h
/-- D holds the number F s at the key s, and nothing where F s is negative -/
def MapD (F : Int → Int) (D : DataW Unit) : Prop :=
  (∀ kl, has D kl = true ↔ ∃ s : Int, kl = .int .i64 s ∧ 0 ≤ F s) ∧ (∀ s : Int, D.atKey (.int .i64 s) (.lit (.int .i64 (-1))) = .lit (.int .i64 (F s))) ∧ ∀ s, -1 ≤ F s
theorem MapD.none : MapD (fun _ => -1) (.map []) :=
  ⟨fun kl => ⟨fun h => by simp [Maps.has_eq] at h, fun ⟨s, _, h⟩ => absurd (show (0 : Int) ≤ -1 from h) (by omega)⟩, fun s => rfl, fun s => Int.le_refl _⟩
theorem MapD.put {F F' : Int → Int} {D : DataW Unit} {s i : Int} (h : MapD F D) (hm : IsMap D) (hi : 0 ≤ i) (h1 : F' s = i) (h2 : ∀ t, t ≠ s → F' t = F t) : MapD F' (D.put (.int .i64 s) (.lit (.int .i64 i))) := by
  obtain ⟨ha, hb, hc⟩ := h
  have hk : WideAt.IsKeyLit (.int .i64 s) := trivial
  refine ⟨fun kl => ?_, fun t => ?_, fun t => ?_⟩
  · by_cases e : kl = .int .i64 s
    · subst e
      rw [has_put_same hm hk]
      exact ⟨fun _ => ⟨s, rfl, by omega⟩, fun _ => rfl⟩
    · rw [has_put_other e, ha kl]
      constructor
      · rintro ⟨t, rfl, ht⟩
        exact ⟨t, rfl, by rw [h2 t (fun e' => e (by rw [e']))]; exact ht⟩
      · rintro ⟨t, rfl, ht⟩
        exact ⟨t, rfl, by rw [h2 t (fun e' => e (by rw [e']))] at ht; exact ht⟩
  · by_cases e : t = s
    · subst e
      rw [atKey_put_same hm hk, h1]
    · rw [atKey_put_other (by simpa using e), hb t, h2 t e]
  · by_cases e : t = s
    · subst e; omega
    · rw [h2 t e]; exact hc t
theorem MapD.del {F F' : Int → Int} {D : DataW Unit} {s : Int} (h : MapD F D) (h1 : F' s = -1) (h2 : ∀ t, t ≠ s → F' t = F t) : MapD F' (D.del (.int .i64 s)) := by
  obtain ⟨ha, hb, hc⟩ := h
  refine ⟨fun kl => ?_, fun t => ?_, fun t => ?_⟩
  · by_cases e : kl = .int .i64 s
    · subst e
      rw [has_del_same]
      refine ⟨(fun h => by cases h), ?_⟩
      rintro ⟨t, e, ht⟩
      simp only [Lit.int.injEq, true_and] at e
      subst e
      omega
    · rw [has_del_other e, ha kl]
      constructor
      · rintro ⟨t, rfl, ht⟩
        exact ⟨t, rfl, by rw [h2 t (fun e' => e (by rw [e']))]; exact ht⟩
      · rintro ⟨t, rfl, ht⟩
        exact ⟨t, rfl, by rw [h2 t (fun e' => e (by rw [e']))] at ht; exact ht⟩
  · by_cases e : t = s
    · subst e
      rw [atKey_del_same, h1]
    · rw [atKey_del_other (by simpa using e), hb t, h2 t e]
  · by_cases e : t = s
    · subst e; omega
    · rw [h2 t e]; exact hc t
/-- block m of w is such a map, of at most n entries -/
def PtrMap (P : Program) (w : World) (k : TypeId) (b o m n : Nat) (F : Int → Int) : Prop := ∃ D : DataW Unit, w.ownsMap P k (ptrElem b o) m n D ∧ MapD F D
/-- .. and is being ranged over -/
def PtrRange (P : Program) (w : World) (k : TypeId) (b o m r n : Nat) (F : Int → Int) (left : Lit → Bool) (cnt : Nat) : Prop := ∃ D : DataW Unit, w.ranges P k (ptrElem b o) m r n D left cnt ∧ MapD F D
section
variable {P : Program} {w w' : World} {k e t : TypeId} {b o m n r cnt : Nat} {F : Int → Int} {left : Lit → Bool}
theorem PtrMap.made (w : World) (P : Program) (k : TypeId) (b o : Nat) : PtrMap P (w.alloc (.map #[] 0)) k b o w.heap.size 0 (fun _ => -1) := ⟨.map [], World.ownsMap_made w P k _, MapD.none⟩
theorem PtrMap.grown {row : Option Nat} (h : PtrMap P w k b o m n F) (hg : w.grownBy w' row) (hne : some m ≠ row) : PtrMap P w' k b o m n F := by
  obtain ⟨D, ho, hD⟩ := h
  exact ⟨D, ho.kept hg hne, hD⟩
theorem PtrMap.below {B : Nat} (h : PtrMap P w k b o m n F) (hb : Below B w w') (hB : w.heap.size ≤ B) : PtrMap P w' k b o m n F := h.grown (below_grown hb hB) (by simp)
theorem PtrMap.alloc (h : PtrMap P w k b o m n F) (x : Obj) : PtrMap P (w.alloc x) k b o m n F := h.grown (World.grownBy_alloc w x none) (by simp)
theorem PtrMap.mono {n' : Nat} (h : PtrMap P w k b o m n F) (hn : n ≤ n') : PtrMap P w k b o m n' F := by
  obtain ⟨D, ho, hD⟩ := h
  exact ⟨D, ho.mono hn, hD⟩
theorem PtrMap.lt (h : PtrMap P w k b o m n F) : m < w.heap.size := by
  obtain ⟨D, ho, _⟩ := h
  exact ho.lt
theorem PtrMap.congr {F' : Int → Int} (h : PtrMap P w k b o m n F) (hF : ∀ s, F' s = F s) : PtrMap P w k b o m n F' := by
  obtain rfl : F' = F := funext hF
  exact h
theorem PtrMap.run (h : PtrMap P w k b o m n F) (K : Keyed P k) (ht : P.underlying t = some (.map k e)) (hk : P.underlying k = some (.int .i64)) (hz : (zeroValue e).run P w = .ok (.pointer none) w) {s : Int} (hs : (Lit.int .i64 s).wf = true) :
    (Instr.lookup t (.map (some m)) (.int .i64 s) false).run P w = .ok (ptrV b o (F s)) w := by
  obtain ⟨D, ho, _, hb, hc⟩ := h
  obtain ⟨v, ps, hrun, hv⟩ := ho.lookup K ht hz (show ptrElem b o (.pointer none) = some (.lit (.int .i64 (-1)), []) from rfl) (keyOf_int_mk hk hs)
  obtain ⟨i, _, rfl, hx⟩ := ptrElem_inv hv
  simp only [Prod.mk.injEq] at hx
  rw [hb s] at hx
  simp only [DataW.lit.injEq, Lit.int.injEq, true_and] at hx
  rw [hrun, hx.1]
theorem PtrMap.len (h : PtrMap P w k b o m n F) (ht : P.underlying t = some (.map k e)) (ty : TypeId) : ∃ c : Nat, c ≤ n ∧ (Builtin.len_ #[t] ty #[.map (some m)]).run P w = .ok (.int .i64 (c : Int)) w := by
  obtain ⟨D, ho, _⟩ := h
  exact ⟨_, ho.size_le, ho.len ht ty⟩
/-- 'm[s] = &records[i]' -/
theorem wpList_ptrPut {ops : Array Oper} {rest : List Oper} {op : Oper} {a : Act} {Q : Exit → Act → World → Prop} (hg : op.guard = none) (mm x v : Operand) (t : TypeId) (hop : op.op = Op.mapUpdate t mm x v)
    (k e : TypeId) (K : Keyed P k) (ht : P.underlying t = some (.map k e)) (hk : P.underlying k = some (.int .i64)) (b o m n : Nat) (F F' : Int → Int)
    (hm : a.eval mm = .map (some m)) (hown : PtrMap P w k b o m n F) (hn : n < maxLen) (s i : Int) (hx : a.eval x = .int .i64 s) (hv : a.eval v = ptrV b o i) (hs : (Lit.int .i64 s).wf = true) (hi : 0 ≤ i) (h1 : F' s = i) (h2 : ∀ t, t ≠ s → F' t = F t)
    (hK : ∀ w', PtrMap P w' k b o m (n + 1) F' → w.grownBy w' (some m) → wpList P ops Q rest (a.put op.dst undef) w') :
    wpList P ops Q (op :: rest) a w := by
  obtain ⟨D, ho, hD⟩ := hown
  exact wpList_mapUpdate_own w hg mm x v t hop k e K ht (ptrElem b o) m n D hm ho hn _ _ (.int .i64 s) hx hv (keyOf_int_mk hk hs) (.lit (.int .i64 i)) [] (ptrElem_mk b o (by omega)) fun w' g1 g2 => hK w' ⟨_, g1, hD.put ho.isMap hi h1 h2⟩ g2
/-- 'range m' -/
theorem wpList_ptrRange {ops : Array Oper} {rest : List Oper} {op : Oper} {a : Act} {Q : Exit → Act → World → Prop} (hg : op.guard = none) (mm : Operand) (t : TypeId) (hop : op.op = Op.range t mm) (k e : TypeId) (K : Keyed P k) (ht : P.underlying t = some (.map k e)) (b o m n : Nat) (F : Int → Int)
    (hm : a.eval mm = .map (some m)) (hown : PtrMap P w k b o m n F)
    (hK : ∀ w' left cnt, (∀ kl, left kl = true ↔ ∃ s : Int, kl = .int .i64 s ∧ 0 ≤ F s) → PtrRange P w' k b o m w.heap.size n F left cnt → w.grownBy w' none → w'.heap.size = w.heap.size + 1 → wpList P ops Q rest (a.put op.dst (.pointer (some ⟨w.heap.size, 0, none⟩))) w') :
    wpList P ops Q (op :: rest) a w := by
  obtain ⟨D, ho, hD⟩ := hown
  exact wpList_range_own w hg mm t hop k e K ht (ptrElem b o) m n D hm ho fun w' g1 g2 g3 => hK w' _ _ hD.1 ⟨D, g1, hD⟩ g2 g3
/-- the step -/
theorem wpList_ptrNext {ops : Array Oper} {rest : List Oper} {op : Oper} {a : Act} {Q : Exit → Act → World → Prop} (hg : op.guard = none) (it : Operand) (hop : op.op = Op.next it false) (k : TypeId) (K : Keyed P k) (hk : P.underlying k = some (.int .i64))
    (b o m r n : Nat) (F : Int → Int) (left : Lit → Bool) (cnt : Nat) (hit : a.eval it = .pointer (some ⟨r, 0, none⟩)) (h : PtrRange P w k b o m r n F left cnt)
    (hDone : (∀ kl, left kl = false) → wpList P ops Q rest (a.put op.dst (.tuple #[.bool false])) w)
    (hMore : ∀ (s : Int) (j : Nat) (w' : World) (cnt' : Nat), (Lit.int .i64 s).wf = true → left (.int .i64 s) = true → F s = (j : Int) → PtrRange P w' k b o m r n F (fun z => left z && !z.sameKey (.int .i64 s)) cnt' → cnt' < cnt →
      w.grownBy w' (some r) → w'.heap.size = w.heap.size → (Instr.entry (.pointer (some ⟨r, 0, none⟩))).run P w' = .ok (.tuple #[.int .i64 s, .pointer (some ⟨b, o + j * 7, none⟩)]) w' → wpList P ops Q rest (a.put op.dst (.tuple #[.bool true, .int .i64 s, .pointer (some ⟨b, o + j * 7, none⟩)])) w') :
    wpList P ops Q (op :: rest) a w := by
  obtain ⟨D, ho, hD⟩ := h
  refine wpList_next_ranges w hg it hop k K (ptrElem b o) (Value.int .i64) (ptrV b o) (fun key kl hkey => by obtain ⟨x, rfl, _⟩ := Maps.keyOf_int_inv hk hkey; exact ⟨x, rfl⟩) (fun v y hv => by obtain ⟨i, _, rfl, _⟩ := ptrElem_inv hv; exact ⟨i, rfl⟩)
    m r n D left cnt hit ho (fun _ h => hDone h) fun x c kl y w' cnt' hkey hl hv hat hrg hlt hgr hsz hen => ?_
  obtain ⟨x', ex, rfl, hwf⟩ := Maps.keyOf_int_inv hk hkey
  obtain rfl : x = x' := by simpa using ex
  have hF : F x = c ∧ 0 ≤ F x := by
    obtain ⟨i, hi, hvi, rfl⟩ := ptrElem_inv hv
    have e1 := hat (.lit (.int .i64 (-1)))
    rw [hD.2.1 x] at e1
    simp only [DataW.lit.injEq, Lit.int.injEq, true_and] at e1
    have hpos : 0 ≤ F x := by
      cases hh : has D (.int .i64 x) with
      | true =>
        obtain ⟨s, es, hs⟩ := (hD.1 _).1 hh
        simp only [Lit.int.injEq, true_and] at es
        subst es; exact hs
      | false =>
        have a1 := atKey_of_not_has hh (.lit (.int .i64 (-1)))
        have a2 := atKey_of_not_has hh (.lit (.int .i64 (-2)))
        rw [hat] at a1 a2
        rw [a1] at a2
        simp at a2
    refine ⟨?_, hpos⟩
    obtain ⟨j, rfl⟩ : ∃ j : Nat, i = (j : Int) := ⟨i.toNat, by omega⟩
    rw [ptrV_nat] at hvi
    unfold ptrV at hvi
    split at hvi
    · cases hvi
    · simp only [Value.pointer.injEq, Option.some.injEq, Addr.mk.injEq, true_and, and_true] at hvi
      omega
  obtain ⟨j, hj⟩ : ∃ j : Nat, F x = (j : Int) := ⟨(F x).toNat, by omega⟩
  obtain rfl : c = (j : Int) := by omega
  rw [ptrV_nat] at hen ⊢
  exact hMore x j w' cnt' hwf hl hj ⟨D, hrg, hD⟩ hlt hgr hsz hen
/-- 'delete(m, s)' in the round -/
theorem wpList_ptrDel {ops : Array Oper} {rest : List Oper} {op : Oper} {a : Act} {Q : Exit → Act → World → Prop} (hg : op.guard = none) (mm x : Operand) (t k : TypeId) (hop : op.op = Op.call { callee := Callee.builtin Builtin.delete, args := #[mm, x], argTypes := #[t, k] })
    (e : TypeId) (K : Keyed P k) (ht : P.underlying t = some (.map k e)) (hk : P.underlying k = some (.int .i64)) (b o m r n : Nat) (F F' : Int → Int) (left : Lit → Bool) (cnt : Nat)
    (hm : a.eval mm = .map (some m)) (h : PtrRange P w k b o m r n F left cnt) (s : Int) (hx : a.eval x = .int .i64 s) (hs : (Lit.int .i64 s).wf = true) (h1 : F' s = -1) (h2 : ∀ t, t ≠ s → F' t = F t)
    (hK : ∀ w' cnt', PtrRange P w' k b o m r n F' (fun z => left z && !z.sameKey (.int .i64 s)) cnt' → cnt' ≤ cnt → w.grownBy w' (some m) → wpList P ops Q rest (a.put op.dst (.tuple #[])) w') :
    wpList P ops Q (op :: rest) a w := by
  obtain ⟨D, ho, hD⟩ := h
  exact wpList_delete_ranges w hg mm x t k hop e K ht (ptrElem b o) m r n D left cnt hm ho _ (.int .i64 s) hx (keyOf_int_mk hk hs) fun w' cnt' g1 g2 g3 => hK w' cnt' ⟨_, g1, hD.del h1 h2⟩ g2 g3.grown
theorem PtrRange.owns (h : PtrRange P w k b o m r n F left cnt) : PtrMap P w k b o m n F := by
  obtain ⟨D, ho, hD⟩ := h
  exact ⟨D, ho.owns, hD⟩
theorem PtrRange.left_eq (h : PtrRange P w k b o m r n F left cnt) : w.rangeLeft m r = cnt := by
  obtain ⟨D, ho, _⟩ := h
  exact ho.left_eq
theorem PtrRange.kept {row : Option Nat} (h : PtrRange P w k b o m r n F left cnt) (hg : w.grownBy w' row) (hm : some m ≠ row) (hr : some r ≠ row) : PtrRange P w' k b o m r n F left cnt := by
  obtain ⟨D, ho, hD⟩ := h
  exact ⟨D, ho.kept hg hm hr, hD⟩
theorem PtrRange.below {B : Nat} (h : PtrRange P w k b o m r n F left cnt) (hb : Below B w w') (hB : w.heap.size ≤ B) : PtrRange P w' k b o m r n F left cnt := h.kept (below_grown hb hB) (by simp) (by simp)
end
end Go.Proofs.Ytlahjaakegdigaa
