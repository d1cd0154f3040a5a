/-
  Packed: PtrMap, ValMap, ValueImpl, Lists2.
-/
import Derived.Lib.SlKeysI
import Derived.OneCell
import Derived.Test.YteciobkjfmddcaaGreatQ2
import Derived.Test.YteciobkjfmddcaaGreatQ7
import Derived.Test.YteciobkjfmddcaaGreatQ8
import Derived.Test.YteciobkjfmddcaaGreatQ10
import Derived.Test.YteciobkjfmddcaaGreatQ12
set_option linter.unusedVariables false
namespace Go.Proofs.YteciobkjfmddcaaGreat
open Go.RowKit Go.Maps

def ptrV (b o : Nat) (i : Int) : Value := if i < 0 then .pointer none else .pointer (some ⟨b, o + i.toNat * 7, none⟩)
theorem ptrV_neg {b o : Nat} {i : Int} (h : i < 0) : ptrV b o i = .pointer none := if_pos h
theorem ptrV_nat (b o j : Nat) : ptrV b o (j : Int) = .pointer (some ⟨b, o + j * 7, none⟩) := by
  unfold ptrV; rw [if_neg (by omega)]; simp
def ptrElem (b o : Nat) (v : Value) : Option (DataW Unit × List MemPlace) :=
  match v with
  | .pointer none => some (.lit (.int .i64 (-1)), [])
  | .pointer (some ⟨b', o', none⟩) => if b' = b ∧ o ≤ o' ∧ (o' - o) % 7 = 0 then some (.lit (.int .i64 (((o' - o) / 7 : Nat) : Int)), []) else none
  | _ => none
theorem ptrElem_mk (b o : Nat) {i : Int} (h : -1 ≤ i) : ptrElem b o (ptrV b o i) = some (.lit (.int .i64 i), []) := by
  by_cases h0 : i < 0
  · obtain rfl : i = -1 := by omega
    rw [ptrV_neg h0]; rfl
  · obtain ⟨j, rfl⟩ : ∃ j : Nat, i = (j : Int) := ⟨i.toNat, by omega⟩
    rw [ptrV_nat]
    unfold ptrElem
    have e1 : o + j * 7 - o = j * 7 := by omega
    simp [e1]
theorem ptrElem_inv {b o : Nat} {v : Value} {z : DataW Unit × List MemPlace} (h : ptrElem b o v = some z) : ∃ i : Int, -1 ≤ i ∧ v = ptrV b o i ∧ z = (.lit (.int .i64 i), []) := by
  unfold ptrElem at h
  split at h
  · exact ⟨-1, by omega, (ptrV_neg (by omega)).symm, (Option.some.inj h).symm⟩
  · rename_i b' o'
    by_cases hc : b' = b ∧ o ≤ o' ∧ (o' - o) % 7 = 0
    · rw [if_pos hc] at h
      obtain ⟨rfl, h1, h2⟩ := hc
      refine ⟨((o' - o) / 7 : Nat), by omega, ?_, (Option.some.inj h).symm⟩
      rw [ptrV_nat]
      have : o + (o' - o) / 7 * 7 = o' := by omega
      rw [this]
    · rw [if_neg hc] at h; cases h
  · cases h
def MapD (F : Int → Int) (D : DataW Unit) : Prop :=
  (∀ kl, has D kl = true ↔ ∃ s : Int, kl = .int .i64 s ∧ 0 ≤ F s) ∧ (∀ s : Int, D.atKey (.int .i64 s) (.lit (.int .i64 (-1))) = .lit (.int .i64 (F s))) ∧ ∀ s, -1 ≤ F s
theorem MapD.none : MapD (fun _ => -1) (.map []) :=
  ⟨fun kl => ⟨fun h => by simp [Maps.has_eq] at h, fun ⟨s, _, h⟩ => absurd (show (0 : Int) ≤ -1 from h) (by omega)⟩, fun s => rfl, fun s => Int.le_refl _⟩
theorem MapD.put {F F' : Int → Int} {D : DataW Unit} {s i : Int} (h : MapD F D) (hm : IsMap D) (hi : 0 ≤ i) (h1 : F' s = i) (h2 : ∀ t, t ≠ s → F' t = F t) : MapD F' (D.put (.int .i64 s) (.lit (.int .i64 i))) := by
  obtain ⟨ha, hb, hc⟩ := h
  have hk : WideAt.IsKeyLit (.int .i64 s) := trivial
  refine ⟨fun kl => ?_, fun t => ?_, fun t => ?_⟩
  · by_cases e : kl = .int .i64 s
    · subst e
      rw [has_put_same hm hk]
      exact ⟨fun _ => ⟨s, rfl, by omega⟩, fun _ => rfl⟩
    · rw [has_put_other e, ha kl]
      constructor
      · rintro ⟨t, rfl, ht⟩
        exact ⟨t, rfl, by rw [h2 t (fun e' => e (by rw [e']))]; exact ht⟩
      · rintro ⟨t, rfl, ht⟩
        exact ⟨t, rfl, by rw [h2 t (fun e' => e (by rw [e']))] at ht; exact ht⟩
  · by_cases e : t = s
    · subst e
      rw [atKey_put_same hm hk, h1]
    · rw [atKey_put_other (by simpa using e), hb t, h2 t e]
  · by_cases e : t = s
    · subst e; omega
    · rw [h2 t e]; exact hc t
theorem MapD.del {F F' : Int → Int} {D : DataW Unit} {s : Int} (h : MapD F D) (h1 : F' s = -1) (h2 : ∀ t, t ≠ s → F' t = F t) : MapD F' (D.del (.int .i64 s)) := by
  obtain ⟨ha, hb, hc⟩ := h
  refine ⟨fun kl => ?_, fun t => ?_, fun t => ?_⟩
  · by_cases e : kl = .int .i64 s
    · subst e
      rw [has_del_same]
      refine ⟨(fun h => by cases h), ?_⟩
      rintro ⟨t, e, ht⟩
      simp only [Lit.int.injEq, true_and] at e
      subst e
      omega
    · rw [has_del_other e, ha kl]
      constructor
      · rintro ⟨t, rfl, ht⟩
        exact ⟨t, rfl, by rw [h2 t (fun e' => e (by rw [e']))]; exact ht⟩
      · rintro ⟨t, rfl, ht⟩
        exact ⟨t, rfl, by rw [h2 t (fun e' => e (by rw [e']))] at ht; exact ht⟩
  · by_cases e : t = s
    · subst e
      rw [atKey_del_same, h1]
    · rw [atKey_del_other (by simpa using e), hb t, h2 t e]
  · by_cases e : t = s
    · subst e; omega
    · rw [h2 t e]; exact hc t
def PtrMap (P : Program) (w : World) (k : TypeId) (b o m n : Nat) (F : Int → Int) : Prop := ∃ D : DataW Unit, w.ownsMap P k (ptrElem b o) m n D ∧ MapD F D
def PtrRange (P : Program) (w : World) (k : TypeId) (b o m r n : Nat) (F : Int → Int) (left : Lit → Bool) (cnt : Nat) : Prop := ∃ D : DataW Unit, w.ranges P k (ptrElem b o) m r n D left cnt ∧ MapD F D
section
variable {P : Program} {w w' : World} {k e t : TypeId} {b o m n r cnt : Nat} {F : Int → Int} {left : Lit → Bool}
theorem PtrMap.made (w : World) (P : Program) (k : TypeId) (b o : Nat) : PtrMap P (w.alloc (.map #[] 0)) k b o w.heap.size 0 (fun _ => -1) := ⟨.map [], World.ownsMap_made w P k _, MapD.none⟩
theorem PtrMap.grown {row : Option Nat} (h : PtrMap P w k b o m n F) (hg : w.grownBy w' row) (hne : some m ≠ row) : PtrMap P w' k b o m n F := by
  obtain ⟨D, ho, hD⟩ := h
  exact ⟨D, ho.kept hg hne, hD⟩
theorem PtrMap.below {B : Nat} (h : PtrMap P w k b o m n F) (hb : Below B w w') (hB : w.heap.size ≤ B) : PtrMap P w' k b o m n F := h.grown (below_grown hb hB) (by simp)
theorem PtrMap.alloc (h : PtrMap P w k b o m n F) (x : Obj) : PtrMap P (w.alloc x) k b o m n F := h.grown (World.grownBy_alloc w x none) (by simp)
theorem PtrMap.mono {n' : Nat} (h : PtrMap P w k b o m n F) (hn : n ≤ n') : PtrMap P w k b o m n' F := by
  obtain ⟨D, ho, hD⟩ := h
  exact ⟨D, ho.mono hn, hD⟩
theorem PtrMap.lt (h : PtrMap P w k b o m n F) : m < w.heap.size := by
  obtain ⟨D, ho, _⟩ := h
  exact ho.lt
theorem PtrMap.congr {F' : Int → Int} (h : PtrMap P w k b o m n F) (hF : ∀ s, F' s = F s) : PtrMap P w k b o m n F' := by
  obtain rfl : F' = F := funext hF
  exact h
theorem PtrMap.run (h : PtrMap P w k b o m n F) (K : Keyed P k) (ht : P.underlying t = some (.map k e)) (hk : P.underlying k = some (.int .i64)) (hz : (zeroValue e).run P w = .ok (.pointer none) w) {s : Int} (hs : (Lit.int .i64 s).wf = true) :
    (Instr.lookup t (.map (some m)) (.int .i64 s) false).run P w = .ok (ptrV b o (F s)) w := by
  obtain ⟨D, ho, _, hb, hc⟩ := h
  obtain ⟨v, ps, hrun, hv⟩ := ho.lookup K ht hz (show ptrElem b o (.pointer none) = some (.lit (.int .i64 (-1)), []) from rfl) (keyOf_int_mk hk hs)
  obtain ⟨i, _, rfl, hx⟩ := ptrElem_inv hv
  simp only [Prod.mk.injEq] at hx
  rw [hb s] at hx
  simp only [DataW.lit.injEq, Lit.int.injEq, true_and] at hx
  rw [hrun, hx.1]
theorem PtrMap.len (h : PtrMap P w k b o m n F) (ht : P.underlying t = some (.map k e)) (ty : TypeId) : ∃ c : Nat, c ≤ n ∧ (Builtin.len_ #[t] ty #[.map (some m)]).run P w = .ok (.int .i64 (c : Int)) w := by
  obtain ⟨D, ho, _⟩ := h
  exact ⟨_, ho.size_le, ho.len ht ty⟩
theorem wpList_ptrPut {ops : Array Oper} {rest : List Oper} {op : Oper} {a : Act} {Q : Exit → Act → World → Prop} (hg : op.guard = none) (mm x v : Operand) (t : TypeId) (hop : op.op = Op.mapUpdate t mm x v)
    (k e : TypeId) (K : Keyed P k) (ht : P.underlying t = some (.map k e)) (hk : P.underlying k = some (.int .i64)) (b o m n : Nat) (F F' : Int → Int)
    (hm : a.eval mm = .map (some m)) (hown : PtrMap P w k b o m n F) (hn : n < maxLen) (s i : Int) (hx : a.eval x = .int .i64 s) (hv : a.eval v = ptrV b o i) (hs : (Lit.int .i64 s).wf = true) (hi : 0 ≤ i) (h1 : F' s = i) (h2 : ∀ t, t ≠ s → F' t = F t)
    (hK : ∀ w', PtrMap P w' k b o m (n + 1) F' → w.grownBy w' (some m) → wpList P ops Q rest (a.put op.dst undef) w') :
    wpList P ops Q (op :: rest) a w := by
  obtain ⟨D, ho, hD⟩ := hown
  exact wpList_mapUpdate_own w hg mm x v t hop k e K ht (ptrElem b o) m n D hm ho hn _ _ (.int .i64 s) hx hv (keyOf_int_mk hk hs) (.lit (.int .i64 i)) [] (ptrElem_mk b o (by omega)) fun w' g1 g2 => hK w' ⟨_, g1, hD.put ho.isMap hi h1 h2⟩ g2
theorem wpList_ptrRange {ops : Array Oper} {rest : List Oper} {op : Oper} {a : Act} {Q : Exit → Act → World → Prop} (hg : op.guard = none) (mm : Operand) (t : TypeId) (hop : op.op = Op.range t mm) (k e : TypeId) (K : Keyed P k) (ht : P.underlying t = some (.map k e)) (b o m n : Nat) (F : Int → Int)
    (hm : a.eval mm = .map (some m)) (hown : PtrMap P w k b o m n F)
    (hK : ∀ w' left cnt, (∀ kl, left kl = true ↔ ∃ s : Int, kl = .int .i64 s ∧ 0 ≤ F s) → PtrRange P w' k b o m w.heap.size n F left cnt → w.grownBy w' none → w'.heap.size = w.heap.size + 1 → wpList P ops Q rest (a.put op.dst (.pointer (some ⟨w.heap.size, 0, none⟩))) w') :
    wpList P ops Q (op :: rest) a w := by
  obtain ⟨D, ho, hD⟩ := hown
  exact wpList_range_own w hg mm t hop k e K ht (ptrElem b o) m n D hm ho fun w' g1 g2 g3 => hK w' _ _ hD.1 ⟨D, g1, hD⟩ g2 g3
theorem wpList_ptrNext {ops : Array Oper} {rest : List Oper} {op : Oper} {a : Act} {Q : Exit → Act → World → Prop} (hg : op.guard = none) (it : Operand) (hop : op.op = Op.next it false) (k : TypeId) (K : Keyed P k) (hk : P.underlying k = some (.int .i64))
    (b o m r n : Nat) (F : Int → Int) (left : Lit → Bool) (cnt : Nat) (hit : a.eval it = .pointer (some ⟨r, 0, none⟩)) (h : PtrRange P w k b o m r n F left cnt)
    (hDone : (∀ kl, left kl = false) → wpList P ops Q rest (a.put op.dst (.tuple #[.bool false])) w)
    (hMore : ∀ (s : Int) (j : Nat) (w' : World) (cnt' : Nat), (Lit.int .i64 s).wf = true → left (.int .i64 s) = true → F s = (j : Int) → PtrRange P w' k b o m r n F (fun z => left z && !z.sameKey (.int .i64 s)) cnt' → cnt' < cnt →
      w.grownBy w' (some r) → w'.heap.size = w.heap.size → (Instr.entry (.pointer (some ⟨r, 0, none⟩))).run P w' = .ok (.tuple #[.int .i64 s, .pointer (some ⟨b, o + j * 7, none⟩)]) w' → wpList P ops Q rest (a.put op.dst (.tuple #[.bool true, .int .i64 s, .pointer (some ⟨b, o + j * 7, none⟩)])) w') :
    wpList P ops Q (op :: rest) a w := by
  obtain ⟨D, ho, hD⟩ := h
  refine wpList_next_ranges w hg it hop k K (ptrElem b o) (Value.int .i64) (ptrV b o) (fun key kl hkey => by obtain ⟨x, rfl, _⟩ := Maps.keyOf_int_inv hk hkey; exact ⟨x, rfl⟩) (fun v y hv => by obtain ⟨i, _, rfl, _⟩ := ptrElem_inv hv; exact ⟨i, rfl⟩)
    m r n D left cnt hit ho (fun _ h => hDone h) fun x c kl y w' cnt' hkey hl hv hat hrg hlt hgr hsz hen => ?_
  obtain ⟨x', ex, rfl, hwf⟩ := Maps.keyOf_int_inv hk hkey
  obtain rfl : x = x' := by simpa using ex
  have hF : F x = c ∧ 0 ≤ F x := by
    obtain ⟨i, hi, hvi, rfl⟩ := ptrElem_inv hv
    have e1 := hat (.lit (.int .i64 (-1)))
    rw [hD.2.1 x] at e1
    simp only [DataW.lit.injEq, Lit.int.injEq, true_and] at e1
    have hpos : 0 ≤ F x := by
      cases hh : has D (.int .i64 x) with
      | true =>
        obtain ⟨s, es, hs⟩ := (hD.1 _).1 hh
        simp only [Lit.int.injEq, true_and] at es
        subst es; exact hs
      | false =>
        have a1 := atKey_of_not_has hh (.lit (.int .i64 (-1)))
        have a2 := atKey_of_not_has hh (.lit (.int .i64 (-2)))
        rw [hat] at a1 a2
        rw [a1] at a2
        simp at a2
    refine ⟨?_, hpos⟩
    obtain ⟨j, rfl⟩ : ∃ j : Nat, i = (j : Int) := ⟨i.toNat, by omega⟩
    rw [ptrV_nat] at hvi
    unfold ptrV at hvi
    split at hvi
    · cases hvi
    · simp only [Value.pointer.injEq, Option.some.injEq, Addr.mk.injEq, true_and, and_true] at hvi
      omega
  obtain ⟨j, hj⟩ : ∃ j : Nat, F x = (j : Int) := ⟨(F x).toNat, by omega⟩
  obtain rfl : c = (j : Int) := by omega
  rw [ptrV_nat] at hen ⊢
  exact hMore x j w' cnt' hwf hl hj ⟨D, hrg, hD⟩ hlt hgr hsz hen
theorem wpList_ptrDel {ops : Array Oper} {rest : List Oper} {op : Oper} {a : Act} {Q : Exit → Act → World → Prop} (hg : op.guard = none) (mm x : Operand) (t k : TypeId) (hop : op.op = Op.call { callee := Callee.builtin Builtin.delete, args := #[mm, x], argTypes := #[t, k] })
    (e : TypeId) (K : Keyed P k) (ht : P.underlying t = some (.map k e)) (hk : P.underlying k = some (.int .i64)) (b o m r n : Nat) (F F' : Int → Int) (left : Lit → Bool) (cnt : Nat)
    (hm : a.eval mm = .map (some m)) (h : PtrRange P w k b o m r n F left cnt) (s : Int) (hx : a.eval x = .int .i64 s) (hs : (Lit.int .i64 s).wf = true) (h1 : F' s = -1) (h2 : ∀ t, t ≠ s → F' t = F t)
    (hK : ∀ w' cnt', PtrRange P w' k b o m r n F' (fun z => left z && !z.sameKey (.int .i64 s)) cnt' → cnt' ≤ cnt → w.grownBy w' (some m) → wpList P ops Q rest (a.put op.dst (.tuple #[])) w') :
    wpList P ops Q (op :: rest) a w := by
  obtain ⟨D, ho, hD⟩ := h
  exact wpList_delete_ranges w hg mm x t k hop e K ht (ptrElem b o) m r n D left cnt hm ho _ (.int .i64 s) hx (keyOf_int_mk hk hs) fun w' cnt' g1 g2 g3 => hK w' cnt' ⟨_, g1, hD.del h1 h2⟩ g2 g3.grown
theorem PtrRange.owns (h : PtrRange P w k b o m r n F left cnt) : PtrMap P w k b o m n F := by
  obtain ⟨D, ho, hD⟩ := h
  exact ⟨D, ho.owns, hD⟩
theorem PtrRange.left_eq (h : PtrRange P w k b o m r n F left cnt) : w.rangeLeft m r = cnt := by
  obtain ⟨D, ho, _⟩ := h
  exact ho.left_eq
theorem PtrRange.kept {row : Option Nat} (h : PtrRange P w k b o m r n F left cnt) (hg : w.grownBy w' row) (hm : some m ≠ row) (hr : some r ≠ row) : PtrRange P w' k b o m r n F left cnt := by
  obtain ⟨D, ho, hD⟩ := h
  exact ⟨D, ho.kept hg hm hr, hD⟩
theorem PtrRange.below {B : Nat} (h : PtrRange P w k b o m r n F left cnt) (hb : Below B w w') (hB : w.heap.size ≤ B) : PtrRange P w' k b o m r n F left cnt := h.kept (below_grown hb hB) (by simp) (by simp)
end
end Go.Proofs.YteciobkjfmddcaaGreat
set_option linter.unusedVariables false
namespace Go.Proofs.YteciobkjfmddcaaGreat
open Go.RowKit Go.Maps

def heldE (v : Value) : Option (DataW Value × List MemPlace) := some (.held v, [])
theorem heldE_inv {v : Value} {z : DataW Value × List MemPlace} (h : heldE v = some z) : z = (.held v, []) := (Option.some.inj h).symm
def MapV (F : Lit → Option Value) (D : DataW Value) : Prop := (∀ kl, has D kl = true ↔ ∃ v, F kl = some v) ∧ ∀ kl v, F kl = some v → ∀ z, D.atKey kl z = .held v
theorem MapV.none : MapV (fun _ => none) (.map []) := ⟨fun kl => ⟨fun h => by simp [Maps.has_eq] at h, fun ⟨_, h⟩ => by cases h⟩, fun _ _ h => by cases h⟩
theorem MapV.put {F F' : Lit → Option Value} {D : DataW Value} {kl : Lit} {v : Value} (h : MapV F D) (hm : IsMap D) (hk : WideAt.IsKeyLit kl) (h1 : F' kl = some v) (h2 : ∀ z, z ≠ kl → F' z = F z) : MapV F' (D.put kl (.held v)) := by
  obtain ⟨ha, hb⟩ := h
  refine ⟨fun x => ?_, fun x u hx z => ?_⟩
  · by_cases e : x = kl
    · subst e
      rw [has_put_same hm hk]
      exact ⟨fun _ => ⟨v, h1⟩, fun _ => rfl⟩
    · rw [has_put_other e, ha x, h2 x e]
  · by_cases e : x = kl
    · subst e
      rw [atKey_put_same hm hk]
      rw [h1] at hx
      rw [Option.some.inj hx]
    · rw [atKey_put_other e]
      rw [h2 x e] at hx
      exact hb x u hx z
theorem MapV.del {F F' : Lit → Option Value} {D : DataW Value} {kl : Lit} (h : MapV F D) (h1 : F' kl = Option.none) (h2 : ∀ z, z ≠ kl → F' z = F z) : MapV F' (D.del kl) := by
  obtain ⟨ha, hb⟩ := h
  refine ⟨fun x => ?_, fun x u hx z => ?_⟩
  · by_cases e : x = kl
    · subst e
      rw [has_del_same, h1]
      exact ⟨(fun h => by cases h), (fun ⟨_, h⟩ => by cases h)⟩
    · rw [has_del_other e, ha x, h2 x e]
  · by_cases e : x = kl
    · subst e
      rw [h1] at hx; cases hx
    · rw [atKey_del_other e]
      rw [h2 x e] at hx
      exact hb x u hx z
def ValMap (P : Program) (w : World) (k : TypeId) (m n : Nat) (F : Lit → Option Value) : Prop := ∃ D : DataW Value, w.ownsMap P k heldE m n D ∧ MapV F D
def ValRange (P : Program) (w : World) (k : TypeId) (m r n : Nat) (F : Lit → Option Value) (left : Lit → Bool) (cnt : Nat) : Prop := ∃ D : DataW Value, w.ranges P k heldE m r n D left cnt ∧ MapV F D
section
variable {P : Program} {w w' : World} {k e t : TypeId} {m n r cnt : Nat} {F : Lit → Option Value} {left : Lit → Bool}
theorem ValMap.made (w : World) (P : Program) (k : TypeId) : ValMap P (w.alloc (.map #[] 0)) k w.heap.size 0 (fun _ => none) := ⟨.map [], World.ownsMap_made w P k _, MapV.none⟩
theorem ValMap.grown {row : Option Nat} (h : ValMap P w k m n F) (hg : w.grownBy w' row) (hne : some m ≠ row) : ValMap P w' k m n F := by
  obtain ⟨D, ho, hD⟩ := h
  exact ⟨D, ho.kept hg hne, hD⟩
theorem ValMap.below {B : Nat} (h : ValMap P w k m n F) (hb : Below B w w') (hB : w.heap.size ≤ B) : ValMap P w' k m n F := h.grown (below_grown hb hB) (by simp)
theorem ValMap.alloc (h : ValMap P w k m n F) (x : Obj) : ValMap P (w.alloc x) k m n F := h.grown (World.grownBy_alloc w x none) (by simp)
theorem ValMap.mono {n' : Nat} (h : ValMap P w k m n F) (hn : n ≤ n') : ValMap P w k m n' F := by
  obtain ⟨D, ho, hD⟩ := h
  exact ⟨D, ho.mono hn, hD⟩
theorem ValMap.lt (h : ValMap P w k m n F) : m < w.heap.size := by
  obtain ⟨D, ho, _⟩ := h
  exact ho.lt
theorem ValMap.congr {F' : Lit → Option Value} (h : ValMap P w k m n F) (hF : ∀ s, F' s = F s) : ValMap P w k m n F' := by
  obtain rfl : F' = F := funext hF
  exact h
theorem ValMap.run (h : ValMap P w k m n F) (K : Keyed P k) (ht : P.underlying t = some (.map k e)) {z : Value} (hz : (zeroValue e).run P w = .ok z w) {key : Value} {kl : Lit} (hkey : keyOf P k key = some kl) :
    (Instr.lookup t (.map (some m)) key false).run P w = .ok ((F kl).getD z) w := by
  obtain ⟨D, ho, ha, hb⟩ := h
  obtain ⟨v, ps, hrun, hv⟩ := ho.lookup K ht hz (show heldE z = some (.held z, []) from rfl) hkey
  have h1 := heldE_inv hv
  simp only [Prod.mk.injEq] at h1
  have h2 : v = (F kl).getD z := by
    cases hF : F kl with
    | some u =>
      rw [hb kl u hF] at h1
      have := h1.1
      simp only [DataW.held.injEq] at this
      exact this.symm
    | none =>
      have h3 : has D kl = false := by
        cases hh : has D kl with
        | false => rfl
        | true => obtain ⟨u, hu⟩ := (ha kl).1 hh; rw [hF] at hu; cases hu
      rw [atKey_of_not_has h3] at h1
      have := h1.1
      simp only [DataW.held.injEq] at this
      exact this.symm
  rw [hrun, h2]
theorem ValMap.len (h : ValMap P w k m n F) (ht : P.underlying t = some (.map k e)) (ty : TypeId) : ∃ c : Nat, c ≤ n ∧ (Builtin.len_ #[t] ty #[.map (some m)]).run P w = .ok (.int .i64 (c : Int)) w := by
  obtain ⟨D, ho, _⟩ := h
  exact ⟨_, ho.size_le, ho.len ht ty⟩
theorem wpList_valPut {ops : Array Oper} {rest : List Oper} {op : Oper} {a : Act} {Q : Exit → Act → World → Prop} (hg : op.guard = none) (mm x v : Operand) (t : TypeId) (hop : op.op = Op.mapUpdate t mm x v)
    (k e : TypeId) (K : Keyed P k) (ht : P.underlying t = some (.map k e)) (m n : Nat) (F F' : Lit → Option Value)
    (hm : a.eval mm = .map (some m)) (hown : ValMap P w k m n F) (hn : n < maxLen) (key val : Value) (kl : Lit) (hx : a.eval x = key) (hv : a.eval v = val) (hkey : keyOf P k key = some kl) (hk : WideAt.IsKeyLit kl) (h1 : F' kl = some val) (h2 : ∀ z, z ≠ kl → F' z = F z)
    (hK : ∀ w', ValMap P w' k m (n + 1) F' → w.grownBy w' (some m) → wpList P ops Q rest (a.put op.dst undef) w') :
    wpList P ops Q (op :: rest) a w := by
  obtain ⟨D, ho, hD⟩ := hown
  exact wpList_mapUpdate_own w hg mm x v t hop k e K ht heldE m n D hm ho hn key val kl hx hv hkey (.held val) [] rfl fun w' g1 g2 => hK w' ⟨_, g1, hD.put ho.isMap hk h1 h2⟩ g2
theorem wpList_valRange {ops : Array Oper} {rest : List Oper} {op : Oper} {a : Act} {Q : Exit → Act → World → Prop} (hg : op.guard = none) (mm : Operand) (t : TypeId) (hop : op.op = Op.range t mm) (k e : TypeId) (K : Keyed P k) (ht : P.underlying t = some (.map k e)) (m n : Nat) (F : Lit → Option Value)
    (hm : a.eval mm = .map (some m)) (hown : ValMap P w k m n F)
    (hK : ∀ w' left cnt, (∀ kl, left kl = true ↔ ∃ v, F kl = some v) → ValRange P w' k m w.heap.size n F left cnt → w.grownBy w' none → w'.heap.size = w.heap.size + 1 → wpList P ops Q rest (a.put op.dst (.pointer (some ⟨w.heap.size, 0, none⟩))) w') :
    wpList P ops Q (op :: rest) a w := by
  obtain ⟨D, ho, hD⟩ := hown
  exact wpList_range_own w hg mm t hop k e K ht heldE m n D hm ho fun w' g1 g2 g3 => hK w' _ _ hD.1 ⟨D, g1, hD⟩ g2 g3
theorem wpList_valNext {ops : Array Oper} {rest : List Oper} {op : Oper} {a : Act} {Q : Exit → Act → World → Prop} (hg : op.guard = none) (it : Operand) (hop : op.op = Op.next it false) (k : TypeId) (K : Keyed P k)
    (m r n : Nat) (F : Lit → Option Value) (left : Lit → Bool) (cnt : Nat) (hit : a.eval it = .pointer (some ⟨r, 0, none⟩)) (h : ValRange P w k m r n F left cnt)
    (hDone : cnt = 0 → (∀ kl, left kl = false) → wpList P ops Q rest (a.put op.dst (.tuple #[.bool false])) w)
    (hMore : ∀ (key v : Value) (kl : Lit) (w' : World) (cnt' : Nat), keyOf P k key = some kl → left kl = true → (∀ u, F kl = some u → u = v) → ValRange P w' k m r n F (fun z => left z && !z.sameKey kl) cnt' → cnt' < cnt →
      w.grownBy w' (some r) → w'.heap.size = w.heap.size → (Instr.entry (.pointer (some ⟨r, 0, none⟩))).run P w' = .ok (.tuple #[key, v]) w' → wpList P ops Q rest (a.put op.dst (.tuple #[.bool true, key, v])) w') :
    wpList P ops Q (op :: rest) a w := by
  obtain ⟨D, ho, hD⟩ := h
  refine wpList_next_ranges w hg it hop k K heldE id id (fun key _ _ => ⟨key, rfl⟩) (fun v _ _ => ⟨v, rfl⟩)
    m r n D left cnt hit ho hDone fun key v kl y w' cnt' hkey hl hv hat hrg hlt hgr hsz hen => ?_
  refine hMore key v kl w' cnt' hkey hl (fun u hu => ?_) ⟨D, hrg, hD⟩ hlt hgr hsz hen
  have h1 := hat (.held u)
  rw [hD.2 kl u hu, heldE_inv hv] at h1
  simpa using h1
theorem ValRange.owns (h : ValRange P w k m r n F left cnt) : ValMap P w k m n F := by
  obtain ⟨D, ho, hD⟩ := h
  exact ⟨D, ho.owns, hD⟩
theorem ValRange.left_eq (h : ValRange P w k m r n F left cnt) : w.rangeLeft m r = cnt := by
  obtain ⟨D, ho, _⟩ := h
  exact ho.left_eq
theorem ValRange.kept {row : Option Nat} (h : ValRange P w k m r n F left cnt) (hg : w.grownBy w' row) (hm : some m ≠ row) (hr : some r ≠ row) : ValRange P w' k m r n F left cnt := by
  obtain ⟨D, ho, hD⟩ := h
  exact ⟨D, ho.kept hg hm hr, hD⟩
theorem ValRange.below {B : Nat} (h : ValRange P w k m r n F left cnt) (hb : Below B w w') (hB : w.heap.size ≤ B) : ValRange P w' k m r n F left cnt := h.kept (below_grown hb hB) (by simp) (by simp)
theorem has_lit {H : Type} {es : List (Lit × DataW H)} {x : Lit} (hx : WideAt.IsKeyLit x) : has (.map es) x = true ↔ ∃ p ∈ es, p.1 = x := by
  rw [Maps.has_eq, List.any_eq_true]
  constructor
  · rintro ⟨p, hp, hs⟩; exact ⟨p, hp, WideAt.sameKey_eq hs⟩
  · rintro ⟨p, hp, hs⟩; exact ⟨p, hp, by rw [hs]; exact WideAt.sameKey_self hx⟩
theorem MapV.keys {D : DataW Value} (K : Keyed P k) (hi : ∀ kl v, F kl = some v → ∃ s, kl = .int .i64 s) (ho : w.ownsMap P k heldE m n D) (hD : MapV F D) : (Go.intKeys D).Nodup ∧ (∀ s, s ∈ Go.intKeys D ↔ ∃ v, F (.int .i64 s) = some v) ∧ (Go.intKeys D).length = Maps.size D := by
  obtain ⟨es, rfl, hpw, hkl⟩ := ho.entries K
  have hk : ∀ p ∈ es, ∃ x, p.1 = .int .i64 x := fun p hp => by
    have : has (.map es) p.1 = true := (has_lit (hkl p hp)).2 ⟨p, hp, rfl⟩
    obtain ⟨v, hv⟩ := (hD.1 p.1).1 this
    exact hi _ _ hv
  refine ⟨?_, fun s => ?_, ?_⟩
  · show (es.map fun p => Go.intOf p.1).Nodup
    rw [List.Nodup, List.pairwise_map]
    refine hpw.imp_of_mem fun ha hb hne e => hne ?_
    obtain ⟨x, hx⟩ := hk _ ha
    obtain ⟨y, hy⟩ := hk _ hb
    rw [hx, hy] at e ⊢
    have e2 : x = y := e
    rw [e2]
  · show s ∈ es.map (fun p => Go.intOf p.1) ↔ _
    rw [← hD.1, has_lit (show WideAt.IsKeyLit (.int .i64 s) from trivial), List.mem_map]
    constructor
    · rintro ⟨p, hp, e⟩
      obtain ⟨x, hx⟩ := hk p hp
      refine ⟨p, hp, ?_⟩
      rw [hx] at e ⊢
      have e2 : x = s := e
      rw [e2]
    · rintro ⟨p, hp, e⟩
      exact ⟨p, hp, by rw [e]; rfl⟩
  · show (es.map fun p => Go.intOf p.1).length = es.length
    simp
end
end Go.Proofs.YteciobkjfmddcaaGreat
set_option linter.unusedVariables false
namespace Go.Proofs.YteciobkjfmddcaaGreat
open Go.RowKit Go.Maps

set_option maxRecDepth 100000 in
set_option maxHeartbeats 2000000 in
theorem keyValue_impl (vf vl vg vfa vta : Value) (b : BookD) (key team : Int) (gv : Value) (ng : Nat) (gg : Nat → Int) (R : Bool) (w : World) (hR : R = true ↔ keyP b team) (h : BookRow w vf vl vg vfa vta b) (hs : ∀ i, (b.f i).nm.size ≤ maxLen) (hgv : IntRow w gv ng gg) :
    Calls Tryz.prog 10 #[.agg #[vf, .int .i64 b.win, .int .i64 b.draw, .int .i64 b.loss, vl, .bool b.again, vg, vfa, vta], .int .i64 key, .int .i64 team, gv] w fun e w' =>
      e = .returned (.int .i64 (if R = true then bookV b key gg ng team.toNat else 0)) ∧ Below w.heap.size w w' := by
  obtain ⟨fa, fc, la, lc, ga, gc, qa, qc, ta, tc, rfl, rfl, rfl, rfl, rfl⟩ := h.form
  obtain ⟨r1, hr1⟩ := boolEx (bookP b)
  have C1 := Lib.hid (fun wa h1 => bookOk_impl (.slice fa b.nf fc) (.slice la b.nl lc) (.slice ga b.m gc) (.slice qa b.nfa qc) (.slice ta b.nta tc) b r1 wa hr1 h1 hs)
  have C2 := Lib.hid (fun wa h1 => isTeamOf_impl (.slice fa b.nf fc) (.slice la b.nl lc) (.slice ga b.m gc) (.slice qa b.nfa qc) (.slice ta b.nta tc) b team wa h1)
  have hall : R = true ↔ (r1 = true ∧ 0 ≤ team ∧ team ≤ (b.nf : Int) - 1) := by rw [hR, hr1]; exact Iff.rfl
  have HN := Lib.hid (boolF hall)
  have HY := Lib.hid (boolT hall)
  have HB1 : Hid (r1 = true → bookP b) := hr1.1
  have HG := Lib.hid hgv
  obtain ⟨xa, xc, rfl, _, _⟩ := hgv.form
  have K0 := Lib.hid (BkAt.made h 29)
  have hsix := h.sixty
  clear hR hr1 hall h hgv hs
  go_enter Tryz.func10, Tryz.ntmps10
  cases r1 with
  | false =>
    obtain rfl := HN.out fun h => by have := h.1; cases this
    clear HN HY
    obtain ⟨d0, d1, d2, d3, d4, d5, d6, d7, d8⟩ := K0.out.cells
    go_wp2_with fail
    refine (C1.out _ K0.out.row).mono ?_
    rintro e w1 ⟨rfl, b1⟩
    have K1 := Lib.hid (K0.out.next b1)
    clear d0 d1 d2 d3 d4 d5 d6 d7 d8 K0 b1
    obtain ⟨d0, d1, d2, d3, d4, d5, d6, d7, d8⟩ := K1.out.cells
    have HE := Lib.hid K1.out.bel
    go_wp2
    go_ret
    exact ⟨rfl, HE.out⟩
  | true =>
  have hbp := HB1.out rfl
  have HBP := Lib.hid hbp
  have hn8 : b.nf ≤ 8 := by have := hbp.1.1; omega
  obtain ⟨d0, d1, d2, d3, d4, d5, d6, d7, d8⟩ := K0.out.cells
  go_wp2_with fail
  refine (C1.out _ K0.out.row).mono ?_
  rintro e w1 ⟨rfl, b1⟩
  have K1 := Lib.hid (K0.out.next b1)
  clear d0 d1 d2 d3 d4 d5 d6 d7 d8 K0 b1
  obtain ⟨d0, d1, d2, d3, d4, d5, d6, d7, d8⟩ := K1.out.cells
  by_cases ht : 0 ≤ team ∧ team ≤ (b.nf : Int) - 1
  case neg =>
    obtain rfl := HN.out fun h => ht h.2
    have e2 : decide (0 ≤ team ∧ team < (b.nf : Int)) = false := decide_eq_false (by omega)
    rw [e2] at C2
    clear HN HY e2 ht hbp
    go_wp2_with fail
    refine (C2.out _ K1.out.row).mono ?_
    rintro e w2 ⟨rfl, b2⟩
    have K2 := Lib.hid (K1.out.next b2)
    clear d0 d1 d2 d3 d4 d5 d6 d7 d8 K1 b2
    obtain ⟨d0, d1, d2, d3, d4, d5, d6, d7, d8⟩ := K2.out.cells
    have HE := Lib.hid K2.out.bel
    go_wp2
    go_ret
    exact ⟨rfl, HE.out⟩
  obtain rfl := HY.out ⟨by first | rfl | trivial, ht⟩
  have e2 : decide (0 ≤ team ∧ team < (b.nf : Int)) = true := decide_eq_true (by omega)
  rw [e2] at C2
  obtain ⟨t, rfl⟩ : ∃ t : Nat, team = t := ⟨team.toNat, by omega⟩
  have ht2 : t < b.nf := by omega
  clear HN HY e2 ht hbp
  go_wp2_with fail
  refine (C2.out _ K1.out.row).mono ?_
  rintro e w2 ⟨rfl, b2⟩
  have K2 := Lib.hid (K1.out.next b2)
  clear d0 d1 d2 d3 d4 d5 d6 d7 d8 K1 b2
  obtain ⟨d0, d1, d2, d3, d4, d5, d6, d7, d8⟩ := K2.out.cells
  go_wp2_with fail
  refine (judgeOf_impl (.slice fa b.nf fc) (.slice la b.nl lc) (.slice ga b.m gc) (.slice qa b.nfa qc) (.slice ta b.nta tc) b _ HBP.out K2.out.row).mono ?_
  rintro e w3 ⟨ra, rc, rfl, hTR, b3⟩
  have HT3 := Lib.hid hTR
  clear hTR
  have K3 := Lib.hid (K2.out.next b3)
  clear d0 d1 d2 d3 d4 d5 d6 d7 d8 K2 b3
  obtain ⟨d0, d1, d2, d3, d4, d5, d6, d7, d8⟩ := K3.out.cells
  go_wp2_with fail
  refine (valueBy_impl fa fc la lc ga gc qa qc ta tc b ra rc key _ ng gg _ HBP.out K3.out.row HT3.out (HG.out.below K3.out.bel (Nat.le_refl _))).mono ?_
  rintro e w4 ⟨fv, rfl, hfv, b4⟩
  have HV4 := Lib.hid hfv
  have HE4 := Lib.hid (K3.out.bel.trans (b4.mono K3.out.bel.size))
  clear hfv b4 K3 d0 d1 d2 d3 d4 d5 d6 d7 d8
  obtain ⟨fN, bd, hbd, rfl, hen, hca⟩ := HV4.out
  have hrun := hen (bd.push (.int .i64 t)) w4
  have hcl := Lib.hid (hca t w4 ht2 (Below.refl _ _))
  obtain ⟨V, hV⟩ : ∃ V, bookV b key gg ng t = V := ⟨_, rfl⟩
  have HVV := Lib.hid hV
  rw [hV] at hcl
  clear hen hca HV4 C1 C2 HB1 hV
  rcases hbd with rfl | ⟨J, rfl⟩
  · simp only [List.push_toArray, List.nil_append] at hrun hcl
    go_wp2_with fail
    refine hcl.out.mono ?_
    rintro e w5 ⟨rfl, b5⟩
    have HE := Lib.hid (HE4.out.trans (b5.mono HE4.out.size))
    clear b5 hcl HE4 hrun
    go_wp2
    go_ret
    exact ⟨by first | (rw [← HVV.out]; rfl) | simp [← HVV.out], HE.out⟩
  · simp only [List.push_toArray, List.nil_append, List.cons_append] at hrun hcl
    go_wp2_with fail
    refine hcl.out.mono ?_
    rintro e w5 ⟨rfl, b5⟩
    have HE := Lib.hid (HE4.out.trans (b5.mono HE4.out.size))
    clear b5 hcl HE4 hrun
    go_wp2
    go_ret
    exact ⟨by first | (rw [← HVV.out]; rfl) | simp [← HVV.out], HE.out⟩

def diffP (n : Nat) (ng : Nat) (gg : Nat → Int) : Prop := teamsP n ng gg ∧ ∀ i, i < ng → ¬ hasP gg (gg i) i
def litsUpto (gg : Nat → Int) (k : Nat) (L : List Lit) : Prop := ∀ kl, kl ∈ L ↔ ∃ j, j < k ∧ kl = .int .i64 (gg j)
theorem litsUpto.next {gg : Nat → Int} {k : Nat} {L : List Lit} (h : litsUpto gg k L) : litsUpto gg (k + 1) (.int .i64 (gg k) :: L) := by
  intro kl
  rw [List.mem_cons, h kl]
  constructor
  · rintro (rfl | ⟨j, hj, rfl⟩)
    · exact ⟨k, by omega, rfl⟩
    · exact ⟨j, by omega, rfl⟩
  · rintro ⟨j, hj, rfl⟩
    by_cases hjk : j = k
    · subst hjk; exact .inl rfl
    · exact .inr ⟨j, by omega, rfl⟩
theorem litsUpto.has {gg : Nat → Int} {k : Nat} {L : List Lit} {x : Int} (h : litsUpto gg k L) : Lit.int .i64 x ∈ L ↔ hasP gg x k := by
  rw [h]
  unfold hasP
  constructor
  · rintro ⟨j, hj, e⟩
    simp only [Lit.int.injEq, true_and] at e
    exact ⟨j, hj, e.symm⟩
  · rintro ⟨j, hj, e⟩
    exact ⟨j, hj, by rw [e]⟩

end Go.Proofs.YteciobkjfmddcaaGreat
set_option linter.unusedVariables false
namespace Go.Proofs.YteciobkjfmddcaaGreat
open Go.RowKit

theorem pairwise_set {α : Type} {R : α → α → Prop} (hs : ∀ a b, R a b → R b a) : ∀ (l : List α) (i : Nat) (x : α), l.Pairwise R → (∀ j y, j ≠ i → l[j]? = some y → R x y) → (l.set i x).Pairwise R
  | [], _, _, h, _ => by simp
  | y :: l, 0, x, h, hx => by
    rw [List.set_cons_zero, List.pairwise_cons]
    exact ⟨fun z hz => by obtain ⟨j, hj⟩ := List.mem_iff_getElem?.1 hz; exact hx (j + 1) z (by omega) (by simpa using hj), (List.pairwise_cons.1 h).2⟩
  | y :: l, i + 1, x, h, hx => by
    rw [List.set_cons_succ, List.pairwise_cons]
    refine ⟨fun z hz => ?_, pairwise_set hs l i x (List.pairwise_cons.1 h).2 fun j z hj hz => hx (j + 1) z (by omega) (by simpa using hz)⟩
    rcases List.mem_or_eq_of_mem_set hz with hz | rfl
    · exact (List.pairwise_cons.1 h).1 z hz
    · exact hs _ _ (hx 0 y (by omega) rfl)
theorem pairwise_at {α : Type} {R : α → α → Prop} (hs : ∀ a b, R a b → R b a) : ∀ (l : List α) (i j : Nat) (x y : α), l.Pairwise R → l[i]? = some x → l[j]? = some y → i ≠ j → R x y
  | [], _, _, _, _, _, h, _, _ => by simp at h
  | z :: l, 0, 0, _, _, _, _, _, hn => absurd rfl hn
  | z :: l, 0, j + 1, x, y, h, h1, h2, _ => by
    simp only [List.getElem?_cons_zero, Option.some.injEq] at h1
    subst h1
    exact (List.pairwise_cons.1 h).1 y (List.mem_of_getElem? (by simpa using h2))
  | z :: l, i + 1, 0, x, y, h, h1, h2, _ => by
    simp only [List.getElem?_cons_zero, Option.some.injEq] at h2
    subst h2
    exact hs _ _ ((List.pairwise_cons.1 h).1 x (List.mem_of_getElem? (by simpa using h1)))
  | z :: l, i + 1, j + 1, x, y, h, h1, h2, hn => pairwise_at hs l i j x y (List.pairwise_cons.1 h).2 (by simpa using h1) (by simpa using h2) (by omega)
def SplitSt (w : World) (B : Nat) (ov av : Value) (T : List (Int × Value × List Int)) : Prop :=
  w.ownsRow B 24 1 ov T.length (T.map fun x => x.2.1) ∧ w.ownsRow B 3 1 av T.length (T.map fun x => Value.int .i64 x.1) ∧ OwnT w B 3 T ∧ ApartL (ov :: av :: T.map fun x => x.2.1)
theorem SplitSt.below {w w' : World} {B C : Nat} {ov av : Value} {T : List (Int × Value × List Int)} (h : SplitSt w B ov av T) (hb : Below C w w') (hC : w.heap.size ≤ C) : SplitSt w' B ov av T :=
  ⟨owns_below h.1 hb hC, owns_below h.2.1 hb hC, h.2.2.1.below hb hC, h.2.2.2⟩
theorem apart_ne {v : Value} {g : Nat} {n c : Nat} (h : ApartV (.slice (some ⟨g, 0, none⟩) n c) v) : v.ownBlock ≠ some g := h g rfl
theorem SplitSt.old {w w' : World} {B og oc ld gg m c' : Nat} {av iv : Value} {v t : Int} {p : List Int} {T : List (Int × Value × List Int)}
    (h : SplitSt w B (.slice (some ⟨og, 0, none⟩) T.length oc) av T) (hx : T[ld]? = some (v, iv, p)) (hg : w.grownBy w' iv.ownBlock)
    (ho : w'.ownsRow B 3 1 (.slice (some ⟨gg, 0, none⟩) (p.length + 1) c') (p.length + 1) (p.map (Value.int .i64) ++ [.int .i64 t])) (hat : iv.ownBlock = some gg ∨ w.heap.size ≤ gg) :
    SplitSt (w'.setCell ⟨og, ld, none⟩ (.slice (some ⟨gg, 0, none⟩) (p.length + 1) c')) B (.slice (some ⟨og, 0, none⟩) T.length oc) av (T.set ld (v, .slice (some ⟨gg, 0, none⟩) (p.length + 1) c', p ++ [t])) := by
  obtain ⟨h1, h2, h3, h4⟩ := h
  have hld : ld < T.length := (List.getElem?_eq_some_iff.1 hx).1
  have ha := List.pairwise_cons.1 h4
  have hb := List.pairwise_cons.1 ha.2
  have hm : ∀ x ∈ T, x.2.1 ∈ T.map fun x => x.2.1 := fun x hx => List.mem_map.2 ⟨x, hx, rfl⟩
  have hxm : (v, iv, p) ∈ T := List.mem_of_getElem? hx
  have hoi : ∀ k, iv.ownBlock = some k → og ≠ k := fun k hk e => ha.1 iv (List.mem_cons_of_mem _ (hm _ hxm)) og rfl (by rw [e]; exact hk)
  have hai : ∀ k, iv.ownBlock = some k → av.ownBlock ≠ some k := fun k hk e => hb.1 iv (hm _ hxm) k e hk
  have hoL := h1.lt og rfl
  have hgo : gg ≠ og := by
    rcases hat with h | h
    · exact fun e => hoi gg h e.symm
    · omega
  have hblk : ∀ k, (Value.slice (some ⟨gg, 0, none⟩) (p.length + 1) c').ownBlock = some k → k = gg := fun k hk => by simpa [Value.ownBlock] using hk.symm
  have hao : av.ownBlock ≠ some og := ha.1 av (List.mem_cons_self ..) og rfl
  have hmap : (T.set ld (v, Value.slice (some ⟨gg, 0, none⟩) (p.length + 1) c', p ++ [t])).map (fun x => x.2.1) = (T.map fun x => x.2.1).set ld (.slice (some ⟨gg, 0, none⟩) (p.length + 1) c') := by rw [List.map_set]
  refine ⟨?_, ?_, ?_, ?_⟩
  · rw [hmap, List.length_set]
    exact ((h1.kept hg (.inr (by cases hk : iv.ownBlock with
      | none => simp [Value.ownBlock]
      | some k => have := hoi k hk; simp [Value.ownBlock]; exact this))).stored ld _).1
  · rw [List.length_set]
    have hmap2 : (T.set ld (v, Value.slice (some ⟨gg, 0, none⟩) (p.length + 1) c', p ++ [t])).map (fun x => Value.int .i64 x.1) = T.map fun x => Value.int .i64 x.1 := by
      rw [List.map_set]
      apply List.ext_getElem?
      intro j
      by_cases e : ld = j
      · subst e
        rw [List.getElem?_set_self (by simpa using hld), List.getElem?_map, hx]
        rfl
      · rw [List.getElem?_set_ne e]
    rw [hmap2]
    refine ownsRow_setCell_other (h2.kept hg ?_) hao _
    cases hk : iv.ownBlock with
    | none => cases hk2 : av.ownBlock with
      | none => exact .inl rfl
      | some k2 => exact .inr (by simp)
    | some k => exact .inr fun e => hai k hk e
  · intro x hxs
    obtain ⟨j, hj⟩ := List.mem_iff_getElem?.1 hxs
    by_cases e : ld = j
    · subst e
      rw [List.getElem?_set_self hld, Option.some.injEq] at hj
      subst hj
      refine ownsRow_setCell_other ?_ ?_ _
      · simpa using ho
      · exact fun e => hgo (hblk og e).symm
    · rw [List.getElem?_set_ne e] at hj
      have hxT := List.mem_of_getElem? hj
      refine ownsRow_setCell_other ((h3 x hxT).kept hg ?_) ?_ _
      · have hap := pairwise_at (fun a b => ApartV.symm) _ ld j iv x.2.1 hb.2 (by rw [List.getElem?_map, hx]; rfl) (by rw [List.getElem?_map, hj]; rfl) e
        cases hk : iv.ownBlock with
        | none => cases hk2 : x.2.1.ownBlock with
          | none => exact .inl rfl
          | some k2 => exact .inr (by simp)
        | some k => exact .inr (hap k hk)
      · exact ha.1 x.2.1 (List.mem_cons_of_mem _ (hm x hxT)) og rfl
  · rw [hmap]
    refine List.pairwise_cons.2 ⟨fun z hz => ?_, List.pairwise_cons.2 ⟨fun z hz => ?_, ?_⟩⟩
    · rcases List.mem_cons.1 hz with rfl | hz
      · exact ha.1 _ (List.mem_cons_self ..)
      · rcases List.mem_or_eq_of_mem_set hz with hz | rfl
        · exact ha.1 z (List.mem_cons_of_mem _ hz)
        · exact fun k h1 h2 => hgo ((hblk k h2).symm.trans (by simpa [Value.ownBlock] using h1.symm))
    · rcases List.mem_or_eq_of_mem_set hz with hz | rfl
      · exact hb.1 z hz
      · intro k h1 h2'
        have := hblk k h2'
        subst this
        rcases hat with h | h
        · exact hai k h h1
        · have := (h2.lt k h1).2; omega
    · refine pairwise_set (fun a b => ApartV.symm) _ _ _ hb.2 fun j y hj hy => ?_
      intro k h1 h2'
      have := hblk k h1
      subst this
      rcases hat with h | h
      · exact pairwise_at (fun a b => ApartV.symm) _ ld j iv y hb.2 (by rw [List.getElem?_map, hx]; rfl) hy (by omega) k h h2'
      · rw [List.getElem?_map] at hy
        cases hT : T[j]? with
        | none => rw [hT] at hy; cases hy
        | some z =>
          rw [hT] at hy
          simp only [Option.map_some, Option.some.injEq] at hy
          subst hy
          have := (h3.lt (List.mem_of_getElem? hT) h2').2
          omega
theorem SplitSt.new {w w' : World} {B ga ca go co D ld : Nat} {v t : Int} {T : List (Int × Value × List Int)}
    (h1 : w.ownsRow B 24 1 (.slice (some ⟨go, 0, none⟩) (T.length + 1) co) (T.length + 1) (gapA (T.map fun x => x.2.1) ld (.slice (some ⟨D, 0, none⟩) 1 1)))
    (h2 : w.ownsRow B 3 1 (.slice (some ⟨ga, 0, none⟩) (T.length + 1) ca) (T.length + 1) ((gapA (T.map Prod.fst) ld v).map (Value.int .i64)))
    (h3 : OwnT w B 3 T) (h4 : ApartL (T.map fun x => x.2.1)) (h5 : w.ownsRow B 3 1 (.slice (some ⟨D, 0, none⟩) 1 1) 1 [.int .i64 t])
    (hgo : ∀ x ∈ T, x.2.1.ownBlock ≠ some go) (hga : ∀ x ∈ T, x.2.1.ownBlock ≠ some ga) (hD : ∀ x ∈ T, x.2.1.ownBlock ≠ some D) (hn1 : go ≠ ga) (hn2 : go ≠ D) (hn3 : ga ≠ D) (hld : ld ≤ T.length) :
    SplitSt w B (.slice (some ⟨go, 0, none⟩) (T.length + 1) co) (.slice (some ⟨ga, 0, none⟩) (T.length + 1) ca) (gapA T ld (v, .slice (some ⟨D, 0, none⟩) 1 1, [t])) := by
  have hl : (gapA T ld (v, Value.slice (some ⟨D, 0, none⟩) 1 1, [t])).length = T.length + 1 := gapA_len hld
  have hb : ∀ (g n c k : Nat), (Value.slice (some ⟨g, 0, none⟩) n c).ownBlock = some k → k = g := fun g n c k hk => by simpa [Value.ownBlock] using hk.symm
  have hin : ∀ y ∈ gapA (T.map fun x => x.2.1) ld (Value.slice (some ⟨D, 0, none⟩) 1 1), y = .slice (some ⟨D, 0, none⟩) 1 1 ∨ ∃ x ∈ T, x.2.1 = y := fun y hy => by
    rcases gapA_mem hy with h | h
    · exact .inl h
    · exact .inr (List.mem_map.1 h)
  refine ⟨by rw [hl, gapA_map]; exact h1, ?_, ?_, ?_⟩
  · rw [hl, gapA_map]
    rw [gapA_map, List.map_map] at h2
    exact h2
  · intro x hx
    rcases gapA_mem hx with rfl | hx
    · exact h5
    · exact h3 x hx
  · rw [gapA_map]
    refine List.pairwise_cons.2 ⟨fun z hz => ?_, List.pairwise_cons.2 ⟨fun z hz => ?_, gapA_pairwise h4 (fun y hy => ?_) fun y hy => ?_⟩⟩
    · rcases List.mem_cons.1 hz with rfl | hz
      · intro k e1 e2
        exact hn1 ((hb _ _ _ _ e1).symm.trans (hb _ _ _ _ e2))
      · rcases hin z hz with rfl | ⟨x, hx, rfl⟩
        · intro k e1 e2
          exact hn2 ((hb _ _ _ _ e1).symm.trans (hb _ _ _ _ e2))
        · intro k e1 e2
          have := hb _ _ _ _ e1
          subst this
          exact hgo x hx e2
    · rcases hin z hz with rfl | ⟨x, hx, rfl⟩
      · intro k e1 e2
        exact hn3 ((hb _ _ _ _ e1).symm.trans (hb _ _ _ _ e2))
      · intro k e1 e2
        have := hb _ _ _ _ e1
        subst this
        exact hga x hx e2
    · obtain ⟨x, hx, rfl⟩ := List.mem_map.1 hy
      intro k e1 e2
      have := hb _ _ _ _ e2
      subst this
      exact hD x hx e1
    · obtain ⟨x, hx, rfl⟩ := List.mem_map.1 hy
      intro k e1 e2
      have := hb _ _ _ _ e1
      subst this
      exact hD x hx e2
theorem OwnT.store {w : World} {B : Nat} {e : TypeId} {T : List (Int × Value × List Int)} (h : OwnT w B e T) {a : Addr} (ha : ∀ x ∈ T, x.2.1.ownBlock ≠ some a.block) (u : Value) : OwnT (w.setCell a u) B e T :=
  fun x hx => ownsRow_setCell_other (h x hx) (ha x hx) u
def LL (w : World) (B : Nat) (v : Value) (T : List (Value × List Int)) : Prop :=
  w.ownsRow B 24 1 v T.length (T.map Prod.fst) ∧ (∀ x ∈ T, w.ownsRow B 3 1 x.1 x.2.length (x.2.map (Value.int .i64))) ∧ ApartL (v :: T.map Prod.fst)
theorem LL.below {w w' : World} {B C : Nat} {v : Value} {T : List (Value × List Int)} (h : LL w B v T) (hb : Below C w w') (hC : w.heap.size ≤ C) : LL w' B v T :=
  ⟨owns_below h.1 hb hC, fun x hx => owns_below (h.2.1 x hx) hb hC, h.2.2⟩
theorem LL.mono {w : World} {B B' : Nat} {v : Value} {T : List (Value × List Int)} (h : LL w B v T) (hb : B' ≤ B) : LL w B' v T :=
  ⟨owns_mono h.1 hb, fun x hx => owns_mono (h.2.1 x hx) hb, h.2.2⟩
theorem SplitSt.ll {w : World} {B : Nat} {ov av : Value} {T : List (Int × Value × List Int)} (h : SplitSt w B ov av T) : LL w B ov (T.map Prod.snd) := by
  obtain ⟨h1, _, h3, h4⟩ := h
  refine ⟨by rw [List.length_map, List.map_map]; exact h1, fun x hx => ?_, ?_⟩
  · obtain ⟨y, hy, rfl⟩ := List.mem_map.1 hx
    exact h3 y hy
  · rw [List.map_map]
    have ha := List.pairwise_cons.1 h4
    exact List.pairwise_cons.2 ⟨fun z hz => ha.1 z (List.mem_cons_of_mem _ hz), (List.pairwise_cons.1 ha.2).2⟩
theorem wpList_appendR {P : Program} {w : World} {ops : Array Oper} {rest : List Oper} {o : Oper} {a : Act} {Q : Exit → Act → World → Prop} (hgd : o.guard = none) (s x : Operand) (t : TypeId)
    (ho : o.op = .call { callee := .builtin .append, args := #[s, x], argTypes := #[t, t] })
    (base : Nat) (e : TypeId) {i : TypeInfo} {z : Value} {k bytes : Nat} (ht : P.underlying t = some (.slice e)) (hi : P.info? e = some i) (hz : i.zero = some z) (hsize : i.size = k) (hby : i.bytes = bytes) (hzs : z.cells.size = k) (hk0 : 0 < k)
    {v u : Value} {n m : Nat} {xs : List Value} {g : Nat → List Value} (hs : a.eval s = v) (hown : w.ownsRow base e k v n xs) (hx : a.eval x = u) (hrow : RecRow k w u m g) (hgl : ∀ i, i < m → (g i).length = k) (h1 : ∀ i, i < m → ∀ u ∈ g i, u.oneCell' = true)
    (hm : n + m ≤ 1048576) (hb : bytes ≤ 1048576) (hbase : base ≤ w.heap.size)
    (h : ∀ vv w', w'.ownsRow base e k vv (n + m) (xs ++ flatR g m) → w.grownBy w' v.ownBlock → (∀ q, vv.ownBlock = some q → v.ownBlock = some q ∨ w.heap.size ≤ q) → wpList P ops Q rest (a.put o.dst vv) w') : wpList P ops Q (o :: rest) a w := by
  rcases hrow with ⟨ad, cap, rfl, rfl⟩ | ⟨b, off, c, rfl, h0, _, hc, _⟩
  · exact wpList_appendZero hgd s x t ho base e i k ht hi v n xs hs hown ad cap hx (h _ _ (by simpa [flatR] using hown) ⟨rfl, rfl, rfl, Nat.le_refl _, fun _ _ _ => rfl⟩ fun q hq => .inl hq)
  · have hmul : (n + m) * bytes ≤ 1048576 * 1048576 := Nat.mul_le_mul hm hb
    refine wpList_append_lies _ hgd s x t ho base e i z k bytes ht hi hz hsize hby hzs hk0 v n xs hs hown ⟨b, off, none⟩ m c (flatR g m) hx (flatR_len k g m hgl) ?_ ?_ h0 (by unfold maxLen; omega) (by omega) hbase _ rfl ?_
    · intro j u hu
      obtain ⟨hj, hv⟩ := flatR_get k g m hgl hk0 j u hu
      have hadd : (⟨b, off, none⟩ : Addr).add j = ⟨b, off + j, none⟩ := by unfold Addr.add; split <;> simp_all
      have hq := (hc _ hj).2 _ u hv
      rw [show off + j / k * k + j % k = off + j by rw [Nat.add_assoc, Nat.mul_comm, Nat.div_add_mod]] at hq
      rw [hadd]
      exact hq
    · intro u hu
      unfold flatR at hu
      rw [List.mem_flatMap] at hu
      obtain ⟨j, hj, hu⟩ := hu
      exact h1 j (List.mem_range.1 hj) u hu
    · intro gg cap w' ho' hg' hat hlt
      refine h _ w' ho' hg' fun q hq => ?_
      have hq' : gg = q := by simpa [Value.ownBlock] using hq
      subst hq'
      rcases hat with h5 | h5
      · exact .inl h5
      · exact .inr (by omega)
theorem OwnT_nil {w : World} {B : Nat} {e : TypeId} : OwnT w B e [] := fun x hx => by cases hx
theorem one_of_slice {v : Value} {w : World} {base : Nat} {e : TypeId} {size n : Nat} {xs : List Value} (h : w.ownsRow base e size v n xs) : v.oneCell' = true := by
  obtain ⟨a, c, rfl⟩ := owns_form h
  rfl
theorem LL.append {w w0 w' : World} {B B' : Nat} {v v2 vv : Value} {T T2 : List (Value × List Int)} (h : LL w0 B v T) (hw : Below w0.heap.size w0 w) (h2 : LL w B' v2 T2) (hB : B ≤ B') (hB2 : w0.heap.size ≤ B')
    (ho : w'.ownsRow B 24 1 vv (T.length + T2.length) (T.map Prod.fst ++ T2.map Prod.fst)) (hg : w.grownBy w' v.ownBlock) (hat : ∀ q, vv.ownBlock = some q → v.ownBlock = some q ∨ w.heap.size ≤ q) : LL w' B vv (T ++ T2) := by
  have h' := h.below hw (Nat.le_refl _)
  have hA := List.pairwise_cons.1 h.2.2
  have hA2 := List.pairwise_cons.1 h2.2.2
  have k1 : ∀ x ∈ T, v.ownBlock = none ∨ ∀ k, x.1.ownBlock = some k → v.ownBlock ≠ some k := fun x hx => .inr fun k hk e => hA.1 x.1 (List.mem_map.2 ⟨x, hx, rfl⟩) k e hk
  have lt0 : ∀ k, v.ownBlock = some k → k < w0.heap.size := fun k hk => (h.1.lt k hk).2
  refine ⟨by rw [List.length_append, List.map_append]; exact ho, fun x hx => ?_, ?_⟩
  · rcases List.mem_append.1 hx with hx | hx
    · refine (h'.2.1 x hx).kept hg ?_
      cases hk : x.1.ownBlock with
      | none => exact .inl rfl
      | some k => exact .inr fun e => hA.1 x.1 (List.mem_map.2 ⟨x, hx, rfl⟩) k e.symm hk
    · refine owns_mono ((h2.2.1 x hx).kept hg ?_) hB
      cases hk : x.1.ownBlock with
      | none => exact .inl rfl
      | some k =>
        refine .inr fun e => ?_
        have := lt0 k e.symm
        have := ((h2.2.1 x hx).lt k hk).1
        omega
  · rw [List.map_append]
    refine List.pairwise_cons.2 ⟨fun z hz => ?_, List.pairwise_append.2 ⟨hA.2, hA2.2, fun a ha b hb => ?_⟩⟩
    · rcases List.mem_append.1 hz with hz | hz
      · intro k e1 e2
        rcases hat k e1 with h5 | h5
        · exact hA.1 z hz k h5 e2
        · obtain ⟨x, hx, rfl⟩ := List.mem_map.1 hz
          have := ((h'.2.1 x hx).lt k e2).2
          omega
      · intro k e1 e2
        obtain ⟨x, hx, rfl⟩ := List.mem_map.1 hz
        have h6 := (h2.2.1 x hx).lt k e2
        rcases hat k e1 with h5 | h5
        · have := lt0 k h5; omega
        · omega
    · intro k e1 e2
      obtain ⟨x, hx, rfl⟩ := List.mem_map.1 ha
      obtain ⟨y, hy, rfl⟩ := List.mem_map.1 hb
      have := ((h.2.1 x hx).lt k e1).2
      have := ((h2.2.1 y hy).lt k e2).1
      omega
def ListsL (w : World) (L : List (List Int)) (e : Ending) (w' : World) : Prop :=
  ∃ v T, e = .returned v ∧ T.map Prod.snd = L ∧ LL w' w.heap.size v T ∧ Below w.heap.size w w'
end Go.Proofs.YteciobkjfmddcaaGreat
