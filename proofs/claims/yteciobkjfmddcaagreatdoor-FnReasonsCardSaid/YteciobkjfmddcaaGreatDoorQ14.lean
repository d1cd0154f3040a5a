/-
  Packed: PtrMap, ValMap, ValueImpl, Groups, SortDesc.
-/
import Derived.Lib.SlKeysI
import Derived.Test.YteciobkjfmddcaaGreatDoorLaysD
import Derived.Sort.OwnSortedInts
import Derived.Lib.SortBridge
import Derived.Test.YteciobkjfmddcaaGreatDoorQ4
import Derived.Test.YteciobkjfmddcaaGreatDoorQ10
import Derived.Test.YteciobkjfmddcaaGreatDoorQ11
import Derived.Test.YteciobkjfmddcaaGreatDoorQ13
set_option linter.unusedVariables false
namespace Go.Proofs.YteciobkjfmddcaaGreatDoor
open Go.RowKit Go.Maps

def ptrV (b o : Nat) (i : Int) : Value := if i < 0 then .pointer none else .pointer (some ⟨b, o + i.toNat * 7, none⟩)
theorem ptrV_neg {b o : Nat} {i : Int} (h : i < 0) : ptrV b o i = .pointer none := if_pos h
theorem ptrV_nat (b o j : Nat) : ptrV b o (j : Int) = .pointer (some ⟨b, o + j * 7, none⟩) := by
  unfold ptrV; rw [if_neg (by omega)]; simp
def ptrElem (b o : Nat) (v : Value) : Option (DataW Unit × List MemPlace) :=
  match v with
  | .pointer none => some (.lit (.int .i64 (-1)), [])
  | .pointer (some ⟨b', o', none⟩) => if b' = b ∧ o ≤ o' ∧ (o' - o) % 7 = 0 then some (.lit (.int .i64 (((o' - o) / 7 : Nat) : Int)), []) else none
  | _ => none
theorem ptrElem_mk (b o : Nat) {i : Int} (h : -1 ≤ i) : ptrElem b o (ptrV b o i) = some (.lit (.int .i64 i), []) := by
  by_cases h0 : i < 0
  · obtain rfl : i = -1 := by omega
    rw [ptrV_neg h0]; rfl
  · obtain ⟨j, rfl⟩ : ∃ j : Nat, i = (j : Int) := ⟨i.toNat, by omega⟩
    rw [ptrV_nat]
    unfold ptrElem
    have e1 : o + j * 7 - o = j * 7 := by omega
    simp [e1]
theorem ptrElem_inv {b o : Nat} {v : Value} {z : DataW Unit × List MemPlace} (h : ptrElem b o v = some z) : ∃ i : Int, -1 ≤ i ∧ v = ptrV b o i ∧ z = (.lit (.int .i64 i), []) := by
  unfold ptrElem at h
  split at h
  · exact ⟨-1, by omega, (ptrV_neg (by omega)).symm, (Option.some.inj h).symm⟩
  · rename_i b' o'
    by_cases hc : b' = b ∧ o ≤ o' ∧ (o' - o) % 7 = 0
    · rw [if_pos hc] at h
      obtain ⟨rfl, h1, h2⟩ := hc
      refine ⟨((o' - o) / 7 : Nat), by omega, ?_, (Option.some.inj h).symm⟩
      rw [ptrV_nat]
      have : o + (o' - o) / 7 * 7 = o' := by omega
      rw [this]
    · rw [if_neg hc] at h; cases h
  · cases h
def MapD (F : Int → Int) (D : DataW Unit) : Prop :=
  (∀ kl, has D kl = true ↔ ∃ s : Int, kl = .int .i64 s ∧ 0 ≤ F s) ∧ (∀ s : Int, D.atKey (.int .i64 s) (.lit (.int .i64 (-1))) = .lit (.int .i64 (F s))) ∧ ∀ s, -1 ≤ F s
theorem MapD.none : MapD (fun _ => -1) (.map []) :=
  ⟨fun kl => ⟨fun h => by simp [Maps.has_eq] at h, fun ⟨s, _, h⟩ => absurd (show (0 : Int) ≤ -1 from h) (by omega)⟩, fun s => rfl, fun s => Int.le_refl _⟩
theorem MapD.put {F F' : Int → Int} {D : DataW Unit} {s i : Int} (h : MapD F D) (hm : IsMap D) (hi : 0 ≤ i) (h1 : F' s = i) (h2 : ∀ t, t ≠ s → F' t = F t) : MapD F' (D.put (.int .i64 s) (.lit (.int .i64 i))) := by
  obtain ⟨ha, hb, hc⟩ := h
  have hk : WideAt.IsKeyLit (.int .i64 s) := trivial
  refine ⟨fun kl => ?_, fun t => ?_, fun t => ?_⟩
  · by_cases e : kl = .int .i64 s
    · subst e
      rw [has_put_same hm hk]
      exact ⟨fun _ => ⟨s, rfl, by omega⟩, fun _ => rfl⟩
    · rw [has_put_other e, ha kl]
      constructor
      · rintro ⟨t, rfl, ht⟩
        exact ⟨t, rfl, by rw [h2 t (fun e' => e (by rw [e']))]; exact ht⟩
      · rintro ⟨t, rfl, ht⟩
        exact ⟨t, rfl, by rw [h2 t (fun e' => e (by rw [e']))] at ht; exact ht⟩
  · by_cases e : t = s
    · subst e
      rw [atKey_put_same hm hk, h1]
    · rw [atKey_put_other (by simpa using e), hb t, h2 t e]
  · by_cases e : t = s
    · subst e; omega
    · rw [h2 t e]; exact hc t
theorem MapD.del {F F' : Int → Int} {D : DataW Unit} {s : Int} (h : MapD F D) (h1 : F' s = -1) (h2 : ∀ t, t ≠ s → F' t = F t) : MapD F' (D.del (.int .i64 s)) := by
  obtain ⟨ha, hb, hc⟩ := h
  refine ⟨fun kl => ?_, fun t => ?_, fun t => ?_⟩
  · by_cases e : kl = .int .i64 s
    · subst e
      rw [has_del_same]
      refine ⟨(fun h => by cases h), ?_⟩
      rintro ⟨t, e, ht⟩
      simp only [Lit.int.injEq, true_and] at e
      subst e
      omega
    · rw [has_del_other e, ha kl]
      constructor
      · rintro ⟨t, rfl, ht⟩
        exact ⟨t, rfl, by rw [h2 t (fun e' => e (by rw [e']))]; exact ht⟩
      · rintro ⟨t, rfl, ht⟩
        exact ⟨t, rfl, by rw [h2 t (fun e' => e (by rw [e']))] at ht; exact ht⟩
  · by_cases e : t = s
    · subst e
      rw [atKey_del_same, h1]
    · rw [atKey_del_other (by simpa using e), hb t, h2 t e]
  · by_cases e : t = s
    · subst e; omega
    · rw [h2 t e]; exact hc t
def PtrMap (P : Program) (w : World) (k : TypeId) (b o m n : Nat) (F : Int → Int) : Prop := ∃ D : DataW Unit, w.ownsMap P k (ptrElem b o) m n D ∧ MapD F D
def PtrRange (P : Program) (w : World) (k : TypeId) (b o m r n : Nat) (F : Int → Int) (left : Lit → Bool) (cnt : Nat) : Prop := ∃ D : DataW Unit, w.ranges P k (ptrElem b o) m r n D left cnt ∧ MapD F D
section
variable {P : Program} {w w' : World} {k e t : TypeId} {b o m n r cnt : Nat} {F : Int → Int} {left : Lit → Bool}
theorem PtrMap.made (w : World) (P : Program) (k : TypeId) (b o : Nat) : PtrMap P (w.alloc (.map #[] 0)) k b o w.heap.size 0 (fun _ => -1) := ⟨.map [], World.ownsMap_made w P k _, MapD.none⟩
theorem PtrMap.grown {row : Option Nat} (h : PtrMap P w k b o m n F) (hg : w.grownBy w' row) (hne : some m ≠ row) : PtrMap P w' k b o m n F := by
  obtain ⟨D, ho, hD⟩ := h
  exact ⟨D, ho.kept hg hne, hD⟩
theorem PtrMap.below {B : Nat} (h : PtrMap P w k b o m n F) (hb : Below B w w') (hB : w.heap.size ≤ B) : PtrMap P w' k b o m n F := h.grown (below_grown hb hB) (by simp)
theorem PtrMap.alloc (h : PtrMap P w k b o m n F) (x : Obj) : PtrMap P (w.alloc x) k b o m n F := h.grown (World.grownBy_alloc w x none) (by simp)
theorem PtrMap.mono {n' : Nat} (h : PtrMap P w k b o m n F) (hn : n ≤ n') : PtrMap P w k b o m n' F := by
  obtain ⟨D, ho, hD⟩ := h
  exact ⟨D, ho.mono hn, hD⟩
theorem PtrMap.lt (h : PtrMap P w k b o m n F) : m < w.heap.size := by
  obtain ⟨D, ho, _⟩ := h
  exact ho.lt
theorem PtrMap.congr {F' : Int → Int} (h : PtrMap P w k b o m n F) (hF : ∀ s, F' s = F s) : PtrMap P w k b o m n F' := by
  obtain rfl : F' = F := funext hF
  exact h
theorem PtrMap.run (h : PtrMap P w k b o m n F) (K : Keyed P k) (ht : P.underlying t = some (.map k e)) (hk : P.underlying k = some (.int .i64)) (hz : (zeroValue e).run P w = .ok (.pointer none) w) {s : Int} (hs : (Lit.int .i64 s).wf = true) :
    (Instr.lookup t (.map (some m)) (.int .i64 s) false).run P w = .ok (ptrV b o (F s)) w := by
  obtain ⟨D, ho, _, hb, hc⟩ := h
  obtain ⟨v, ps, hrun, hv⟩ := ho.lookup K ht hz (show ptrElem b o (.pointer none) = some (.lit (.int .i64 (-1)), []) from rfl) (keyOf_int_mk hk hs)
  obtain ⟨i, _, rfl, hx⟩ := ptrElem_inv hv
  simp only [Prod.mk.injEq] at hx
  rw [hb s] at hx
  simp only [DataW.lit.injEq, Lit.int.injEq, true_and] at hx
  rw [hrun, hx.1]
theorem PtrMap.len (h : PtrMap P w k b o m n F) (ht : P.underlying t = some (.map k e)) (ty : TypeId) : ∃ c : Nat, c ≤ n ∧ (Builtin.len_ #[t] ty #[.map (some m)]).run P w = .ok (.int .i64 (c : Int)) w := by
  obtain ⟨D, ho, _⟩ := h
  exact ⟨_, ho.size_le, ho.len ht ty⟩
theorem wpList_ptrPut {ops : Array Oper} {rest : List Oper} {op : Oper} {a : Act} {Q : Exit → Act → World → Prop} (hg : op.guard = none) (mm x v : Operand) (t : TypeId) (hop : op.op = Op.mapUpdate t mm x v)
    (k e : TypeId) (K : Keyed P k) (ht : P.underlying t = some (.map k e)) (hk : P.underlying k = some (.int .i64)) (b o m n : Nat) (F F' : Int → Int)
    (hm : a.eval mm = .map (some m)) (hown : PtrMap P w k b o m n F) (hn : n < maxLen) (s i : Int) (hx : a.eval x = .int .i64 s) (hv : a.eval v = ptrV b o i) (hs : (Lit.int .i64 s).wf = true) (hi : 0 ≤ i) (h1 : F' s = i) (h2 : ∀ t, t ≠ s → F' t = F t)
    (hK : ∀ w', PtrMap P w' k b o m (n + 1) F' → w.grownBy w' (some m) → wpList P ops Q rest (a.put op.dst undef) w') :
    wpList P ops Q (op :: rest) a w := by
  obtain ⟨D, ho, hD⟩ := hown
  exact wpList_mapUpdate_own w hg mm x v t hop k e K ht (ptrElem b o) m n D hm ho hn _ _ (.int .i64 s) hx hv (keyOf_int_mk hk hs) (.lit (.int .i64 i)) [] (ptrElem_mk b o (by omega)) fun w' g1 g2 => hK w' ⟨_, g1, hD.put ho.isMap hi h1 h2⟩ g2
theorem wpList_ptrRange {ops : Array Oper} {rest : List Oper} {op : Oper} {a : Act} {Q : Exit → Act → World → Prop} (hg : op.guard = none) (mm : Operand) (t : TypeId) (hop : op.op = Op.range t mm) (k e : TypeId) (K : Keyed P k) (ht : P.underlying t = some (.map k e)) (b o m n : Nat) (F : Int → Int)
    (hm : a.eval mm = .map (some m)) (hown : PtrMap P w k b o m n F)
    (hK : ∀ w' left cnt, (∀ kl, left kl = true ↔ ∃ s : Int, kl = .int .i64 s ∧ 0 ≤ F s) → PtrRange P w' k b o m w.heap.size n F left cnt → w.grownBy w' none → w'.heap.size = w.heap.size + 1 → wpList P ops Q rest (a.put op.dst (.pointer (some ⟨w.heap.size, 0, none⟩))) w') :
    wpList P ops Q (op :: rest) a w := by
  obtain ⟨D, ho, hD⟩ := hown
  exact wpList_range_own w hg mm t hop k e K ht (ptrElem b o) m n D hm ho fun w' g1 g2 g3 => hK w' _ _ hD.1 ⟨D, g1, hD⟩ g2 g3
theorem wpList_ptrNext {ops : Array Oper} {rest : List Oper} {op : Oper} {a : Act} {Q : Exit → Act → World → Prop} (hg : op.guard = none) (it : Operand) (hop : op.op = Op.next it false) (k : TypeId) (K : Keyed P k) (hk : P.underlying k = some (.int .i64))
    (b o m r n : Nat) (F : Int → Int) (left : Lit → Bool) (cnt : Nat) (hit : a.eval it = .pointer (some ⟨r, 0, none⟩)) (h : PtrRange P w k b o m r n F left cnt)
    (hDone : (∀ kl, left kl = false) → wpList P ops Q rest (a.put op.dst (.tuple #[.bool false])) w)
    (hMore : ∀ (s : Int) (j : Nat) (w' : World) (cnt' : Nat), (Lit.int .i64 s).wf = true → left (.int .i64 s) = true → F s = (j : Int) → PtrRange P w' k b o m r n F (fun z => left z && !z.sameKey (.int .i64 s)) cnt' → cnt' < cnt →
      w.grownBy w' (some r) → w'.heap.size = w.heap.size → (Instr.entry (.pointer (some ⟨r, 0, none⟩))).run P w' = .ok (.tuple #[.int .i64 s, .pointer (some ⟨b, o + j * 7, none⟩)]) w' → wpList P ops Q rest (a.put op.dst (.tuple #[.bool true, .int .i64 s, .pointer (some ⟨b, o + j * 7, none⟩)])) w') :
    wpList P ops Q (op :: rest) a w := by
  obtain ⟨D, ho, hD⟩ := h
  refine wpList_next_ranges w hg it hop k K (ptrElem b o) (Value.int .i64) (ptrV b o) (fun key kl hkey => by obtain ⟨x, rfl, _⟩ := Maps.keyOf_int_inv hk hkey; exact ⟨x, rfl⟩) (fun v y hv => by obtain ⟨i, _, rfl, _⟩ := ptrElem_inv hv; exact ⟨i, rfl⟩)
    m r n D left cnt hit ho (fun _ h => hDone h) fun x c kl y w' cnt' hkey hl hv hat hrg hlt hgr hsz hen => ?_
  obtain ⟨x', ex, rfl, hwf⟩ := Maps.keyOf_int_inv hk hkey
  obtain rfl : x = x' := by simpa using ex
  have hF : F x = c ∧ 0 ≤ F x := by
    obtain ⟨i, hi, hvi, rfl⟩ := ptrElem_inv hv
    have e1 := hat (.lit (.int .i64 (-1)))
    rw [hD.2.1 x] at e1
    simp only [DataW.lit.injEq, Lit.int.injEq, true_and] at e1
    have hpos : 0 ≤ F x := by
      cases hh : has D (.int .i64 x) with
      | true =>
        obtain ⟨s, es, hs⟩ := (hD.1 _).1 hh
        simp only [Lit.int.injEq, true_and] at es
        subst es; exact hs
      | false =>
        have a1 := atKey_of_not_has hh (.lit (.int .i64 (-1)))
        have a2 := atKey_of_not_has hh (.lit (.int .i64 (-2)))
        rw [hat] at a1 a2
        rw [a1] at a2
        simp at a2
    refine ⟨?_, hpos⟩
    obtain ⟨j, rfl⟩ : ∃ j : Nat, i = (j : Int) := ⟨i.toNat, by omega⟩
    rw [ptrV_nat] at hvi
    unfold ptrV at hvi
    split at hvi
    · cases hvi
    · simp only [Value.pointer.injEq, Option.some.injEq, Addr.mk.injEq, true_and, and_true] at hvi
      omega
  obtain ⟨j, hj⟩ : ∃ j : Nat, F x = (j : Int) := ⟨(F x).toNat, by omega⟩
  obtain rfl : c = (j : Int) := by omega
  rw [ptrV_nat] at hen ⊢
  exact hMore x j w' cnt' hwf hl hj ⟨D, hrg, hD⟩ hlt hgr hsz hen
theorem wpList_ptrDel {ops : Array Oper} {rest : List Oper} {op : Oper} {a : Act} {Q : Exit → Act → World → Prop} (hg : op.guard = none) (mm x : Operand) (t k : TypeId) (hop : op.op = Op.call { callee := Callee.builtin Builtin.delete, args := #[mm, x], argTypes := #[t, k] })
    (e : TypeId) (K : Keyed P k) (ht : P.underlying t = some (.map k e)) (hk : P.underlying k = some (.int .i64)) (b o m r n : Nat) (F F' : Int → Int) (left : Lit → Bool) (cnt : Nat)
    (hm : a.eval mm = .map (some m)) (h : PtrRange P w k b o m r n F left cnt) (s : Int) (hx : a.eval x = .int .i64 s) (hs : (Lit.int .i64 s).wf = true) (h1 : F' s = -1) (h2 : ∀ t, t ≠ s → F' t = F t)
    (hK : ∀ w' cnt', PtrRange P w' k b o m r n F' (fun z => left z && !z.sameKey (.int .i64 s)) cnt' → cnt' ≤ cnt → w.grownBy w' (some m) → wpList P ops Q rest (a.put op.dst (.tuple #[])) w') :
    wpList P ops Q (op :: rest) a w := by
  obtain ⟨D, ho, hD⟩ := h
  exact wpList_delete_ranges w hg mm x t k hop e K ht (ptrElem b o) m r n D left cnt hm ho _ (.int .i64 s) hx (keyOf_int_mk hk hs) fun w' cnt' g1 g2 g3 => hK w' cnt' ⟨_, g1, hD.del h1 h2⟩ g2 g3.grown
theorem PtrRange.owns (h : PtrRange P w k b o m r n F left cnt) : PtrMap P w k b o m n F := by
  obtain ⟨D, ho, hD⟩ := h
  exact ⟨D, ho.owns, hD⟩
theorem PtrRange.left_eq (h : PtrRange P w k b o m r n F left cnt) : w.rangeLeft m r = cnt := by
  obtain ⟨D, ho, _⟩ := h
  exact ho.left_eq
theorem PtrRange.kept {row : Option Nat} (h : PtrRange P w k b o m r n F left cnt) (hg : w.grownBy w' row) (hm : some m ≠ row) (hr : some r ≠ row) : PtrRange P w' k b o m r n F left cnt := by
  obtain ⟨D, ho, hD⟩ := h
  exact ⟨D, ho.kept hg hm hr, hD⟩
theorem PtrRange.below {B : Nat} (h : PtrRange P w k b o m r n F left cnt) (hb : Below B w w') (hB : w.heap.size ≤ B) : PtrRange P w' k b o m r n F left cnt := h.kept (below_grown hb hB) (by simp) (by simp)
end
end Go.Proofs.YteciobkjfmddcaaGreatDoor
set_option linter.unusedVariables false
namespace Go.Proofs.YteciobkjfmddcaaGreatDoor
open Go.RowKit Go.Maps

def heldE (v : Value) : Option (DataW Value × List MemPlace) := some (.held v, [])
theorem heldE_inv {v : Value} {z : DataW Value × List MemPlace} (h : heldE v = some z) : z = (.held v, []) := (Option.some.inj h).symm
def MapV (F : Lit → Option Value) (D : DataW Value) : Prop := (∀ kl, has D kl = true ↔ ∃ v, F kl = some v) ∧ ∀ kl v, F kl = some v → ∀ z, D.atKey kl z = .held v
theorem MapV.none : MapV (fun _ => none) (.map []) := ⟨fun kl => ⟨fun h => by simp [Maps.has_eq] at h, fun ⟨_, h⟩ => by cases h⟩, fun _ _ h => by cases h⟩
theorem MapV.put {F F' : Lit → Option Value} {D : DataW Value} {kl : Lit} {v : Value} (h : MapV F D) (hm : IsMap D) (hk : WideAt.IsKeyLit kl) (h1 : F' kl = some v) (h2 : ∀ z, z ≠ kl → F' z = F z) : MapV F' (D.put kl (.held v)) := by
  obtain ⟨ha, hb⟩ := h
  refine ⟨fun x => ?_, fun x u hx z => ?_⟩
  · by_cases e : x = kl
    · subst e
      rw [has_put_same hm hk]
      exact ⟨fun _ => ⟨v, h1⟩, fun _ => rfl⟩
    · rw [has_put_other e, ha x, h2 x e]
  · by_cases e : x = kl
    · subst e
      rw [atKey_put_same hm hk]
      rw [h1] at hx
      rw [Option.some.inj hx]
    · rw [atKey_put_other e]
      rw [h2 x e] at hx
      exact hb x u hx z
theorem MapV.del {F F' : Lit → Option Value} {D : DataW Value} {kl : Lit} (h : MapV F D) (h1 : F' kl = Option.none) (h2 : ∀ z, z ≠ kl → F' z = F z) : MapV F' (D.del kl) := by
  obtain ⟨ha, hb⟩ := h
  refine ⟨fun x => ?_, fun x u hx z => ?_⟩
  · by_cases e : x = kl
    · subst e
      rw [has_del_same, h1]
      exact ⟨(fun h => by cases h), (fun ⟨_, h⟩ => by cases h)⟩
    · rw [has_del_other e, ha x, h2 x e]
  · by_cases e : x = kl
    · subst e
      rw [h1] at hx; cases hx
    · rw [atKey_del_other e]
      rw [h2 x e] at hx
      exact hb x u hx z
def ValMap (P : Program) (w : World) (k : TypeId) (m n : Nat) (F : Lit → Option Value) : Prop := ∃ D : DataW Value, w.ownsMap P k heldE m n D ∧ MapV F D
def ValRange (P : Program) (w : World) (k : TypeId) (m r n : Nat) (F : Lit → Option Value) (left : Lit → Bool) (cnt : Nat) : Prop := ∃ D : DataW Value, w.ranges P k heldE m r n D left cnt ∧ MapV F D
section
variable {P : Program} {w w' : World} {k e t : TypeId} {m n r cnt : Nat} {F : Lit → Option Value} {left : Lit → Bool}
theorem ValMap.made (w : World) (P : Program) (k : TypeId) : ValMap P (w.alloc (.map #[] 0)) k w.heap.size 0 (fun _ => none) := ⟨.map [], World.ownsMap_made w P k _, MapV.none⟩
theorem ValMap.grown {row : Option Nat} (h : ValMap P w k m n F) (hg : w.grownBy w' row) (hne : some m ≠ row) : ValMap P w' k m n F := by
  obtain ⟨D, ho, hD⟩ := h
  exact ⟨D, ho.kept hg hne, hD⟩
theorem ValMap.below {B : Nat} (h : ValMap P w k m n F) (hb : Below B w w') (hB : w.heap.size ≤ B) : ValMap P w' k m n F := h.grown (below_grown hb hB) (by simp)
theorem ValMap.alloc (h : ValMap P w k m n F) (x : Obj) : ValMap P (w.alloc x) k m n F := h.grown (World.grownBy_alloc w x none) (by simp)
theorem ValMap.mono {n' : Nat} (h : ValMap P w k m n F) (hn : n ≤ n') : ValMap P w k m n' F := by
  obtain ⟨D, ho, hD⟩ := h
  exact ⟨D, ho.mono hn, hD⟩
theorem ValMap.lt (h : ValMap P w k m n F) : m < w.heap.size := by
  obtain ⟨D, ho, _⟩ := h
  exact ho.lt
theorem ValMap.congr {F' : Lit → Option Value} (h : ValMap P w k m n F) (hF : ∀ s, F' s = F s) : ValMap P w k m n F' := by
  obtain rfl : F' = F := funext hF
  exact h
theorem ValMap.run (h : ValMap P w k m n F) (K : Keyed P k) (ht : P.underlying t = some (.map k e)) {z : Value} (hz : (zeroValue e).run P w = .ok z w) {key : Value} {kl : Lit} (hkey : keyOf P k key = some kl) :
    (Instr.lookup t (.map (some m)) key false).run P w = .ok ((F kl).getD z) w := by
  obtain ⟨D, ho, ha, hb⟩ := h
  obtain ⟨v, ps, hrun, hv⟩ := ho.lookup K ht hz (show heldE z = some (.held z, []) from rfl) hkey
  have h1 := heldE_inv hv
  simp only [Prod.mk.injEq] at h1
  have h2 : v = (F kl).getD z := by
    cases hF : F kl with
    | some u =>
      rw [hb kl u hF] at h1
      have := h1.1
      simp only [DataW.held.injEq] at this
      exact this.symm
    | none =>
      have h3 : has D kl = false := by
        cases hh : has D kl with
        | false => rfl
        | true => obtain ⟨u, hu⟩ := (ha kl).1 hh; rw [hF] at hu; cases hu
      rw [atKey_of_not_has h3] at h1
      have := h1.1
      simp only [DataW.held.injEq] at this
      exact this.symm
  rw [hrun, h2]
theorem ValMap.len (h : ValMap P w k m n F) (ht : P.underlying t = some (.map k e)) (ty : TypeId) : ∃ c : Nat, c ≤ n ∧ (Builtin.len_ #[t] ty #[.map (some m)]).run P w = .ok (.int .i64 (c : Int)) w := by
  obtain ⟨D, ho, _⟩ := h
  exact ⟨_, ho.size_le, ho.len ht ty⟩
theorem wpList_valPut {ops : Array Oper} {rest : List Oper} {op : Oper} {a : Act} {Q : Exit → Act → World → Prop} (hg : op.guard = none) (mm x v : Operand) (t : TypeId) (hop : op.op = Op.mapUpdate t mm x v)
    (k e : TypeId) (K : Keyed P k) (ht : P.underlying t = some (.map k e)) (m n : Nat) (F F' : Lit → Option Value)
    (hm : a.eval mm = .map (some m)) (hown : ValMap P w k m n F) (hn : n < maxLen) (key val : Value) (kl : Lit) (hx : a.eval x = key) (hv : a.eval v = val) (hkey : keyOf P k key = some kl) (hk : WideAt.IsKeyLit kl) (h1 : F' kl = some val) (h2 : ∀ z, z ≠ kl → F' z = F z)
    (hK : ∀ w', ValMap P w' k m (n + 1) F' → w.grownBy w' (some m) → wpList P ops Q rest (a.put op.dst undef) w') :
    wpList P ops Q (op :: rest) a w := by
  obtain ⟨D, ho, hD⟩ := hown
  exact wpList_mapUpdate_own w hg mm x v t hop k e K ht heldE m n D hm ho hn key val kl hx hv hkey (.held val) [] rfl fun w' g1 g2 => hK w' ⟨_, g1, hD.put ho.isMap hk h1 h2⟩ g2
theorem wpList_valRange {ops : Array Oper} {rest : List Oper} {op : Oper} {a : Act} {Q : Exit → Act → World → Prop} (hg : op.guard = none) (mm : Operand) (t : TypeId) (hop : op.op = Op.range t mm) (k e : TypeId) (K : Keyed P k) (ht : P.underlying t = some (.map k e)) (m n : Nat) (F : Lit → Option Value)
    (hm : a.eval mm = .map (some m)) (hown : ValMap P w k m n F)
    (hK : ∀ w' left cnt, (∀ kl, left kl = true ↔ ∃ v, F kl = some v) → ValRange P w' k m w.heap.size n F left cnt → w.grownBy w' none → w'.heap.size = w.heap.size + 1 → wpList P ops Q rest (a.put op.dst (.pointer (some ⟨w.heap.size, 0, none⟩))) w') :
    wpList P ops Q (op :: rest) a w := by
  obtain ⟨D, ho, hD⟩ := hown
  exact wpList_range_own w hg mm t hop k e K ht heldE m n D hm ho fun w' g1 g2 g3 => hK w' _ _ hD.1 ⟨D, g1, hD⟩ g2 g3
theorem wpList_valNext {ops : Array Oper} {rest : List Oper} {op : Oper} {a : Act} {Q : Exit → Act → World → Prop} (hg : op.guard = none) (it : Operand) (hop : op.op = Op.next it false) (k : TypeId) (K : Keyed P k)
    (m r n : Nat) (F : Lit → Option Value) (left : Lit → Bool) (cnt : Nat) (hit : a.eval it = .pointer (some ⟨r, 0, none⟩)) (h : ValRange P w k m r n F left cnt)
    (hDone : cnt = 0 → (∀ kl, left kl = false) → wpList P ops Q rest (a.put op.dst (.tuple #[.bool false])) w)
    (hMore : ∀ (key v : Value) (kl : Lit) (w' : World) (cnt' : Nat), keyOf P k key = some kl → left kl = true → (∀ u, F kl = some u → u = v) → ValRange P w' k m r n F (fun z => left z && !z.sameKey kl) cnt' → cnt' < cnt →
      w.grownBy w' (some r) → w'.heap.size = w.heap.size → (Instr.entry (.pointer (some ⟨r, 0, none⟩))).run P w' = .ok (.tuple #[key, v]) w' → wpList P ops Q rest (a.put op.dst (.tuple #[.bool true, key, v])) w') :
    wpList P ops Q (op :: rest) a w := by
  obtain ⟨D, ho, hD⟩ := h
  refine wpList_next_ranges w hg it hop k K heldE id id (fun key _ _ => ⟨key, rfl⟩) (fun v _ _ => ⟨v, rfl⟩)
    m r n D left cnt hit ho hDone fun key v kl y w' cnt' hkey hl hv hat hrg hlt hgr hsz hen => ?_
  refine hMore key v kl w' cnt' hkey hl (fun u hu => ?_) ⟨D, hrg, hD⟩ hlt hgr hsz hen
  have h1 := hat (.held u)
  rw [hD.2 kl u hu, heldE_inv hv] at h1
  simpa using h1
theorem ValRange.owns (h : ValRange P w k m r n F left cnt) : ValMap P w k m n F := by
  obtain ⟨D, ho, hD⟩ := h
  exact ⟨D, ho.owns, hD⟩
theorem ValRange.left_eq (h : ValRange P w k m r n F left cnt) : w.rangeLeft m r = cnt := by
  obtain ⟨D, ho, _⟩ := h
  exact ho.left_eq
theorem ValRange.kept {row : Option Nat} (h : ValRange P w k m r n F left cnt) (hg : w.grownBy w' row) (hm : some m ≠ row) (hr : some r ≠ row) : ValRange P w' k m r n F left cnt := by
  obtain ⟨D, ho, hD⟩ := h
  exact ⟨D, ho.kept hg hm hr, hD⟩
theorem ValRange.below {B : Nat} (h : ValRange P w k m r n F left cnt) (hb : Below B w w') (hB : w.heap.size ≤ B) : ValRange P w' k m r n F left cnt := h.kept (below_grown hb hB) (by simp) (by simp)
theorem has_lit {H : Type} {es : List (Lit × DataW H)} {x : Lit} (hx : WideAt.IsKeyLit x) : has (.map es) x = true ↔ ∃ p ∈ es, p.1 = x := by
  rw [Maps.has_eq, List.any_eq_true]
  constructor
  · rintro ⟨p, hp, hs⟩; exact ⟨p, hp, WideAt.sameKey_eq hs⟩
  · rintro ⟨p, hp, hs⟩; exact ⟨p, hp, by rw [hs]; exact WideAt.sameKey_self hx⟩
theorem MapV.keys {D : DataW Value} (K : Keyed P k) (hi : ∀ kl v, F kl = some v → ∃ s, kl = .int .i64 s) (ho : w.ownsMap P k heldE m n D) (hD : MapV F D) : (Go.intKeys D).Nodup ∧ (∀ s, s ∈ Go.intKeys D ↔ ∃ v, F (.int .i64 s) = some v) ∧ (Go.intKeys D).length = Maps.size D := by
  obtain ⟨es, rfl, hpw, hkl⟩ := ho.entries K
  have hk : ∀ p ∈ es, ∃ x, p.1 = .int .i64 x := fun p hp => by
    have : has (.map es) p.1 = true := (has_lit (hkl p hp)).2 ⟨p, hp, rfl⟩
    obtain ⟨v, hv⟩ := (hD.1 p.1).1 this
    exact hi _ _ hv
  refine ⟨?_, fun s => ?_, ?_⟩
  · show (es.map fun p => Go.intOf p.1).Nodup
    rw [List.Nodup, List.pairwise_map]
    refine hpw.imp_of_mem fun ha hb hne e => hne ?_
    obtain ⟨x, hx⟩ := hk _ ha
    obtain ⟨y, hy⟩ := hk _ hb
    rw [hx, hy] at e ⊢
    have e2 : x = y := e
    rw [e2]
  · show s ∈ es.map (fun p => Go.intOf p.1) ↔ _
    rw [← hD.1, has_lit (show WideAt.IsKeyLit (.int .i64 s) from trivial), List.mem_map]
    constructor
    · rintro ⟨p, hp, e⟩
      obtain ⟨x, hx⟩ := hk p hp
      refine ⟨p, hp, ?_⟩
      rw [hx] at e ⊢
      have e2 : x = s := e
      rw [e2]
    · rintro ⟨p, hp, e⟩
      exact ⟨p, hp, by rw [e]; rfl⟩
  · show (es.map fun p => Go.intOf p.1).length = es.length
    simp
end
end Go.Proofs.YteciobkjfmddcaaGreatDoor
set_option linter.unusedVariables false
namespace Go.Proofs.YteciobkjfmddcaaGreatDoor
open Go.RowKit Go.Maps

set_option maxRecDepth 100000 in
set_option maxHeartbeats 2000000 in
theorem keyValue_impl (vf vl vg vfa vta : Value) (b : BookD) (key team : Int) (gv : Value) (ng : Nat) (gg : Nat → Int) (R : Bool) (w : World) (hR : R = true ↔ keyP b team) (h : BookRow w vf vl vg vfa vta b) (hs : ∀ i, (b.f i).nm.size ≤ maxLen) (hgv : IntRow w gv ng gg) :
    Calls Tryz.prog 9 #[.agg #[vf, .int .i64 b.win, .int .i64 b.draw, .int .i64 b.loss, vl, .bool b.again, vg, vfa, vta], .int .i64 key, .int .i64 team, gv] w fun e w' =>
      e = .returned (.int .i64 (if R = true then bookV b key gg ng team.toNat else 0)) ∧ Below w.heap.size w w' := by
  obtain ⟨fa, fc, la, lc, ga, gc, qa, qc, ta, tc, rfl, rfl, rfl, rfl, rfl⟩ := h.form
  obtain ⟨r1, hr1⟩ := boolEx (bookP b)
  have C1 := Lib.hid (fun wa h1 => bookOk_impl (.slice fa b.nf fc) (.slice la b.nl lc) (.slice ga b.m gc) (.slice qa b.nfa qc) (.slice ta b.nta tc) b r1 wa hr1 h1 hs)
  have C2 := Lib.hid (fun wa h1 => isTeamOf_impl (.slice fa b.nf fc) (.slice la b.nl lc) (.slice ga b.m gc) (.slice qa b.nfa qc) (.slice ta b.nta tc) b team wa h1)
  have hall : R = true ↔ (r1 = true ∧ 0 ≤ team ∧ team ≤ (b.nf : Int) - 1) := by rw [hR, hr1]; exact Iff.rfl
  have HN := Lib.hid (boolF hall)
  have HY := Lib.hid (boolT hall)
  have HB1 : Hid (r1 = true → bookP b) := hr1.1
  have HG := Lib.hid hgv
  obtain ⟨xa, xc, rfl, _, _⟩ := hgv.form
  have K0 := Lib.hid (BkAt.made h 29)
  have hsix := h.sixty
  clear hR hr1 hall h hgv hs
  go_enter Tryz.func9, Tryz.ntmps9
  cases r1 with
  | false =>
    obtain rfl := HN.out fun h => by have := h.1; cases this
    clear HN HY
    obtain ⟨d0, d1, d2, d3, d4, d5, d6, d7, d8⟩ := K0.out.cells
    go_wp2_with fail
    refine (C1.out _ K0.out.row).mono ?_
    rintro e w1 ⟨rfl, b1⟩
    have K1 := Lib.hid (K0.out.next b1)
    clear d0 d1 d2 d3 d4 d5 d6 d7 d8 K0 b1
    obtain ⟨d0, d1, d2, d3, d4, d5, d6, d7, d8⟩ := K1.out.cells
    have HE := Lib.hid K1.out.bel
    go_wp2
    go_ret
    exact ⟨rfl, HE.out⟩
  | true =>
  have hbp := HB1.out rfl
  have HBP := Lib.hid hbp
  have hn8 : b.nf ≤ 8 := by have := hbp.1.1; omega
  obtain ⟨d0, d1, d2, d3, d4, d5, d6, d7, d8⟩ := K0.out.cells
  go_wp2_with fail
  refine (C1.out _ K0.out.row).mono ?_
  rintro e w1 ⟨rfl, b1⟩
  have K1 := Lib.hid (K0.out.next b1)
  clear d0 d1 d2 d3 d4 d5 d6 d7 d8 K0 b1
  obtain ⟨d0, d1, d2, d3, d4, d5, d6, d7, d8⟩ := K1.out.cells
  by_cases ht : 0 ≤ team ∧ team ≤ (b.nf : Int) - 1
  case neg =>
    obtain rfl := HN.out fun h => ht h.2
    have e2 : decide (0 ≤ team ∧ team < (b.nf : Int)) = false := decide_eq_false (by omega)
    rw [e2] at C2
    clear HN HY e2 ht hbp
    go_wp2_with fail
    refine (C2.out _ K1.out.row).mono ?_
    rintro e w2 ⟨rfl, b2⟩
    have K2 := Lib.hid (K1.out.next b2)
    clear d0 d1 d2 d3 d4 d5 d6 d7 d8 K1 b2
    obtain ⟨d0, d1, d2, d3, d4, d5, d6, d7, d8⟩ := K2.out.cells
    have HE := Lib.hid K2.out.bel
    go_wp2
    go_ret
    exact ⟨rfl, HE.out⟩
  obtain rfl := HY.out ⟨by first | rfl | trivial, ht⟩
  have e2 : decide (0 ≤ team ∧ team < (b.nf : Int)) = true := decide_eq_true (by omega)
  rw [e2] at C2
  obtain ⟨t, rfl⟩ : ∃ t : Nat, team = t := ⟨team.toNat, by omega⟩
  have ht2 : t < b.nf := by omega
  clear HN HY e2 ht hbp
  go_wp2_with fail
  refine (C2.out _ K1.out.row).mono ?_
  rintro e w2 ⟨rfl, b2⟩
  have K2 := Lib.hid (K1.out.next b2)
  clear d0 d1 d2 d3 d4 d5 d6 d7 d8 K1 b2
  obtain ⟨d0, d1, d2, d3, d4, d5, d6, d7, d8⟩ := K2.out.cells
  go_wp2_with fail
  refine (judgeOf_impl (.slice fa b.nf fc) (.slice la b.nl lc) (.slice ga b.m gc) (.slice qa b.nfa qc) (.slice ta b.nta tc) b _ HBP.out K2.out.row).mono ?_
  rintro e w3 ⟨ra, rc, rfl, hTR, b3⟩
  have HT3 := Lib.hid hTR
  clear hTR
  have K3 := Lib.hid (K2.out.next b3)
  clear d0 d1 d2 d3 d4 d5 d6 d7 d8 K2 b3
  obtain ⟨d0, d1, d2, d3, d4, d5, d6, d7, d8⟩ := K3.out.cells
  go_wp2_with fail
  refine (valueBy_impl fa fc la lc ga gc qa qc ta tc b ra rc key _ ng gg _ HBP.out K3.out.row HT3.out (HG.out.below K3.out.bel (Nat.le_refl _))).mono ?_
  rintro e w4 ⟨fv, rfl, hfv, b4⟩
  have HV4 := Lib.hid hfv
  have HE4 := Lib.hid (K3.out.bel.trans (b4.mono K3.out.bel.size))
  clear hfv b4 K3 d0 d1 d2 d3 d4 d5 d6 d7 d8
  obtain ⟨fN, bd, hbd, rfl, hen, hca⟩ := HV4.out
  have hrun := hen (bd.push (.int .i64 t)) w4
  have hcl := Lib.hid (hca t w4 ht2 (Below.refl _ _))
  obtain ⟨V, hV⟩ : ∃ V, bookV b key gg ng t = V := ⟨_, rfl⟩
  have HVV := Lib.hid hV
  rw [hV] at hcl
  clear hen hca HV4 C1 C2 HB1 hV
  rcases hbd with rfl | ⟨J, rfl⟩
  · simp only [List.push_toArray, List.nil_append] at hrun hcl
    go_wp2_with fail
    refine hcl.out.mono ?_
    rintro e w5 ⟨rfl, b5⟩
    have HE := Lib.hid (HE4.out.trans (b5.mono HE4.out.size))
    clear b5 hcl HE4 hrun
    go_wp2
    go_ret
    exact ⟨by first | (rw [← HVV.out]; rfl) | simp [← HVV.out], HE.out⟩
  · simp only [List.push_toArray, List.nil_append, List.cons_append] at hrun hcl
    go_wp2_with fail
    refine hcl.out.mono ?_
    rintro e w5 ⟨rfl, b5⟩
    have HE := Lib.hid (HE4.out.trans (b5.mono HE4.out.size))
    clear b5 hcl HE4 hrun
    go_wp2
    go_ret
    exact ⟨by first | (rw [← HVV.out]; rfl) | simp [← HVV.out], HE.out⟩

def diffP (n : Nat) (ng : Nat) (gg : Nat → Int) : Prop := teamsP n ng gg ∧ ∀ i, i < ng → ¬ hasP gg (gg i) i
def litsUpto (gg : Nat → Int) (k : Nat) (L : List Lit) : Prop := ∀ kl, kl ∈ L ↔ ∃ j, j < k ∧ kl = .int .i64 (gg j)
theorem litsUpto.next {gg : Nat → Int} {k : Nat} {L : List Lit} (h : litsUpto gg k L) : litsUpto gg (k + 1) (.int .i64 (gg k) :: L) := by
  intro kl
  rw [List.mem_cons, h kl]
  constructor
  · rintro (rfl | ⟨j, hj, rfl⟩)
    · exact ⟨k, by omega, rfl⟩
    · exact ⟨j, by omega, rfl⟩
  · rintro ⟨j, hj, rfl⟩
    by_cases hjk : j = k
    · subst hjk; exact .inl rfl
    · exact .inr ⟨j, by omega, rfl⟩
theorem litsUpto.has {gg : Nat → Int} {k : Nat} {L : List Lit} {x : Int} (h : litsUpto gg k L) : Lit.int .i64 x ∈ L ↔ hasP gg x k := by
  rw [h]
  unfold hasP
  constructor
  · rintro ⟨j, hj, e⟩
    simp only [Lit.int.injEq, true_and] at e
    exact ⟨j, hj, e.symm⟩
  · rintro ⟨j, hj, e⟩
    exact ⟨j, hj, by rw [e]⟩

set_option maxRecDepth 100000 in
set_option maxHeartbeats 2000000 in
theorem areDiff_impl (vf vl vg vfa vta : Value) (b : BookD) (gv : Value) (ng : Nat) (gg : Nat → Int) (R : Bool) (w : World) (hR : R = true ↔ diffP b.nf ng gg) (h : BookRow w vf vl vg vfa vta b) (hgv : IntRow w gv ng gg) (hn6 : ng ≤ 1048576) :
    Calls Tryz.prog 61 #[.agg #[vf, .int .i64 b.win, .int .i64 b.draw, .int .i64 b.loss, vl, .bool b.again, vg, vfa, vta], gv] w fun e w' => e = .returned (.bool R) ∧ Below w.heap.size w w' := by
  obtain ⟨fa, fc, la, lc, ga, gc, qa, qc, ta, tc, rfl, rfl, rfl, rfl, rfl⟩ := h.form
  have K0 := Lib.hid (BkAt.made h 29)
  have hsix := h.sixty
  have HG := Lib.hid hgv
  obtain ⟨xa, xc, rfl, hx64, _⟩ := hgv.form
  have HN := Lib.hid (boolF hR)
  have HY := Lib.hid (boolT hR)
  have hm0 : BoolMap Tryz.prog (((w.alloc (.cells #[.slice fa b.nf fc, .int .i64 b.win, .int .i64 b.draw, .int .i64 b.loss, .slice la b.nl lc, .bool b.again, .slice ga b.m gc, .slice qa b.nfa qc, .slice ta b.nta tc] 29))).alloc (.map #[] 0)) 3 4 (w.heap.size + 1) 0 [] := by
    have := BoolMap.made (w.alloc (.cells #[.slice fa b.nf fc, .int .i64 b.win, .int .i64 b.draw, .int .i64 b.loss, .slice la b.nl lc, .bool b.again, .slice ga b.m gc, .slice qa b.nfa qc, .slice ta b.nta tc] 29)) Tryz.prog 3 4
    simpa using this
  have HM0 := Lib.hid hm0
  have hmm := @run_makeMap Tryz.prog
  clear h hR hgv hm0
  go_enter Tryz.func61, Tryz.ntmps61
  go_wp2
  go_loopw [11] (fun i wr => ∃ (k : Nat) (L : List Lit), k ≤ ng ∧ i = .int .i64 k ∧ Hid (BoolMap Tryz.prog wr 3 4 (w.heap.size + 1) k L) ∧ Hid (litsUpto gg k L) ∧ Hid (∀ j, j < k → (0 ≤ gg j ∧ gg j ≤ (b.nf : Int) - 1) ∧ ¬ hasP gg (gg j) j) ∧ Hid (BkAt w wr w.heap.size fa fc la lc ga gc qa qc ta tc b)) (fun i _ => ng - (RowKit.intOf i).toNat)
  case atStart => exact ⟨0, [], Nat.zero_le _, rfl, HM0, fun kl => by simp, fun j hj => absurd hj (by omega), K0.out.alloc _⟩
  case round =>
    clear HM0 K0
    obtain ⟨k, L, hk, rfl, HM, HL, HOK, K0⟩ := hrel
    by_cases hlt : k < ng
    · have hIR := HG.out.below K0.out.bel (Nat.le_refl _)
      obtain ⟨bo, off, rfl, hcap, c1⟩ := int_at hIR hlt
      have C1 := Lib.hid (fun wa h1 => isTeamOf_impl (.slice fa b.nf fc) (.slice la b.nl lc) (.slice ga b.m gc) (.slice qa b.nfa qc) (.slice ta b.nta tc) b (gg k) wa h1)
      have HLk := Lib.hid HL.out.next
      have HH : Hid (Lit.int .i64 (gg k) ∈ L ↔ hasP gg (gg k) k) := HL.out.has
      have HNk : Hid (¬ ((0 ≤ gg k ∧ gg k ≤ (b.nf : Int) - 1) ∧ ¬ hasP gg (gg k) k) → R = false) := fun h => HN.out fun hp => h ⟨hp.1 k hlt, hp.2 k hlt⟩
      have HSk : Hid ((0 ≤ gg k ∧ gg k ≤ (b.nf : Int) - 1) ∧ ¬ hasP gg (gg k) k → ∀ j, j < k + 1 → (0 ≤ gg j ∧ gg j ≤ (b.nf : Int) - 1) ∧ ¬ hasP gg (gg j) j) := fun h j hj => by
        by_cases hjk : j = k
        · subst hjk; exact h
        · exact HOK.out j (by omega)
      clear hIR HL HOK
      obtain ⟨d0, d1, d2, d3, d4, d5, d6, d7, d8⟩ := K0.out.cells
      obtain ⟨hp, hhp⟩ : ∃ hp : Prop, hasP gg (gg k) k = hp := ⟨_, rfl⟩
      rw [hhp] at HH HNk HSk
      obtain ⟨x, hx⟩ : ∃ x, gg k = x := ⟨_, rfl⟩
      rw [hx] at c1 C1 HLk HH HNk HSk
      have hmt := HM.out.lt
      by_cases hin : 0 ≤ x ∧ x ≤ (b.nf : Int) - 1
      case neg =>
        obtain rfl := HNk.out fun h => hin h.1
        have e2 : decide (0 ≤ x ∧ x < (b.nf : Int)) = false := decide_eq_false (by omega)
        rw [e2] at C1
        clear HN HY HNk HSk HLk HH HM hin e2 hx hhp
        go_wp2_with fail
        refine (C1.out _ K0.out.row).mono ?_
        rintro e w2 ⟨rfl, b2⟩
        have HE := Lib.hid (K0.out.bel.trans (b2.mono K0.out.bel.size))
        clear b2 C1
        go_wp2
        go_ret
        exact ⟨rfl, HE.out⟩
      have e2 : decide (0 ≤ x ∧ x < (b.nf : Int)) = true := decide_eq_true (by omega)
      rw [e2] at C1
      have hwf : (Lit.int .i64 x).wf = true := WalkArith.wf_i64 (by omega)
      have HK : Hid (keyOf Tryz.prog 3 (.int .i64 x) = some (.int .i64 x)) := keyOf_int_mk Tryz.underlying3 hwf
      have HIN := Lib.hid hin
      clear e2 hwf hin
      by_cases hps : hp
      case pos =>
        obtain rfl := HNk.out fun h => h.2 hps
        have HR := Lib.hid (HH.out.2 hps)
        clear HN HY HNk HSk HLk HH hhp hx
        go_wp2_with fail
        refine (C1.out _ K0.out.row).mono ?_
        rintro e w2 ⟨rfl, b2⟩
        have hrun := ((HM.out.below b2 (Nat.le_refl _)).run kInt Tryz.underlying98 Tryz.underlying4 (zBool _) HK.out).1 HR.out
        have HE := Lib.hid (K0.out.bel.trans (b2.mono K0.out.bel.size))
        clear b2 C1 HR
        go_wp2
        go_ret
        exact ⟨rfl, HE.out⟩
      have HR : Hid (Lit.int .i64 x ∉ L) := fun h => hps (HH.out.1 h)
      have HS := Lib.hid (HSk.out ⟨HIN.out, hps⟩)
      clear HNk HSk HH hhp hps
      go_wp2_with fail
      refine (C1.out _ K0.out.row).mono ?_
      rintro e w2 ⟨rfl, b2⟩
      have HM2 := Lib.hid (HM.out.below b2 (Nat.le_refl _))
      have hrun := (HM2.out.run kInt Tryz.underlying98 Tryz.underlying4 (zBool _) HK.out).2 HR.out
      have K2 := Lib.hid (K0.out.next b2)
      have hm2 := HM2.out.lt
      clear b2 C1 HR K0 d0 d1 d2 d3 d4 d5 d6 d7 d8 c1 HM
      have kk1 : WideAt.IsKeyLit (.int .i64 x) := trivial
      go_wp2_with (at_mapUpdate; refine wpList_boolTrue rfl (.tmp 24) (.tmp 25) (.const (.bool true)) 98 rfl 3 4 kInt Tryz.underlying98 Tryz.underlying4 (w.heap.size + 1) k L rfl HM2.out (by unfold maxLen; omega) _ (.int .i64 x) rfl rfl HK.out kk1 ?_; intro w3 m3 g3)
      have K3 := Lib.hid (K2.out.grown g3 (by omega) (Nat.le_refl _))
      have HM3 := Lib.hid m3
      clear m3 g3 hrun
      go_roundw
      case rel => exact ⟨k + 1, _, by omega, by go_num, HM3, HLk, HS, K3⟩
      case measure => simp [RowKit.intOf]; omega
    · obtain rfl : ng = k := by omega
      obtain rfl := HY.out ⟨fun i hi => (HOK.out i hi).1, fun i hi => (HOK.out i hi).2⟩
      have HE := Lib.hid K0.out.bel
      clear HN HY HOK K0
      go_wp2
      go_ret
      exact ⟨rfl, HE.out⟩

end Go.Proofs.YteciobkjfmddcaaGreatDoor
set_option linter.unusedVariables false
namespace Go.Proofs.YteciobkjfmddcaaGreatDoor
open Go.RowKit Go.Maps

def findI (T : List (Int × Value × List Int)) (s : Int) : Option Value := (T.find? fun x => x.1 == s).map fun x => x.2.1
def findT (T : List (Int × Value × List Int)) : Lit → Option Value
  | .int .i64 s => findI T s
  | _ => none
theorem findI_iff {s : Int} {u : Value} : ∀ {T : List (Int × Value × List Int)}, T.Pairwise (fun a b => b.1 < a.1) → (findI T s = some u ↔ ∃ x ∈ T, x.1 = s ∧ x.2.1 = u)
  | [], _ => by simp [findI]
  | y :: T, h => by
    have ih := findI_iff (s := s) (u := u) (List.pairwise_cons.1 h).2
    have hlt := (List.pairwise_cons.1 h).1
    unfold findI at ih ⊢
    by_cases e : y.1 = s
    · rw [List.find?_cons_of_pos (by simpa using e)]
      simp only [Option.map_some, Option.some.injEq]
      constructor
      · intro h2; exact ⟨y, List.mem_cons_self .., e, h2⟩
      · rintro ⟨x, hx, h1, h2⟩
        rcases List.mem_cons.1 hx with rfl | hx
        · exact h2
        · have := hlt x hx; omega
    · rw [List.find?_cons_of_neg (by simpa using e), ih]
      constructor
      · rintro ⟨x, hx, h1, h2⟩; exact ⟨x, List.mem_cons_of_mem _ hx, h1, h2⟩
      · rintro ⟨x, hx, h1, h2⟩
        rcases List.mem_cons.1 hx with rfl | hx
        · exact absurd h1 e
        · exact ⟨x, hx, h1, h2⟩
theorem findT_key {T : List (Int × Value × List Int)} {kl : Lit} {v : Value} (h : findT T kl = some v) : ∃ s, kl = .int .i64 s := by
  unfold findT at h
  split at h
  · exact ⟨_, rfl⟩
  · cases h
theorem opt_ext {α : Type} {a b : Option α} (h : ∀ u, a = some u ↔ b = some u) : a = b := by
  cases a with
  | some x => exact ((h x).1 rfl).symm
  | none => cases b with
    | none => rfl
    | some y => exact absurd ((h y).2 rfl) (by simp)
theorem datT_desc {T : List (Int × Value × List Int)} {V gg : Nat → Int} {k : Nat} (h : datT T = splitP V gg k) : T.Pairwise (fun a b => b.1 < a.1) := by
  have h1 := splitP_desc V gg k
  rw [← h] at h1
  unfold datT at h1
  rwa [List.pairwise_map] at h1
structure StepT (w : World) (B n : Nat) (T : List (Int × Value × List Int)) (v t : Int) (iv : Value) (p : List Int) (T' : Value → List (Int × Value × List Int)) : Prop where
  look : (findT T (.int .i64 v)).getD (.slice none 0 0) = iv
  own : w.ownsRow B 3 1 iv p.length (p.map (Value.int .i64))
  dat : ∀ s, datT (T' s) = insP v t (datT T)
  self : ∀ s, findT (T' s) (.int .i64 v) = some s
  other : ∀ s z, z ≠ .int .i64 v → findT (T' s) z = findT T z
  mem : ∀ s x, x ∈ T' s → x = (v, s, p ++ [t]) ∨ (x ∈ T ∧ x.1 ≠ v)
  apart : ∀ s, (∀ x ∈ T, x.1 ≠ v → ApartV s x.2.1) → ApartL ((T' s).map fun x => x.2.1)
  parted : ∀ x ∈ T, x.1 ≠ v → ApartV iv x.2.1
  len : p.length ≤ n
theorem StepT.ex {w : World} {B : Nat} {T : List (Int × Value × List Int)} {V gg : Nat → Int} {k : Nat} (hd : datT T = splitP V gg k) (hO : OwnT w B 3 T) (hA : ApartL (T.map fun x => x.2.1)) (v t : Int) :
    ∃ iv p T', StepT w B k T v t iv p T' := by
  have hdesc := datT_desc hd
  obtain ⟨j, hj⟩ : ∃ j, leadV Prod.fst v T = j := ⟨_, rfl⟩
  have hjd : leadV Prod.fst v (datT T) = j := by rw [datT_lead, hj]
  have hjl : j ≤ T.length := by rw [← hj]; exact leadV_le _
  have hlow : ∀ i x, j ≤ i → T[i]? = some x → x.1 ≤ v := fun i x hi hx => by
    have h1 : j < T.length := by have := (List.getElem?_eq_some_iff.1 hx).1; omega
    have h2 := leadV_ge (f := Prod.fst) (v := v) T (T[j]'h1) (by rw [hj]; exact List.getElem?_eq_getElem h1)
    by_cases e : i = j
    · subst e
      rw [List.getElem?_eq_getElem h1] at hx
      cases hx; omega
    · have := List.pairwise_iff_getElem.1 hdesc j i h1 (List.getElem?_eq_some_iff.1 hx).1 (by omega)
      have e2 := (List.getElem?_eq_some_iff.1 hx).2
      rw [e2] at this
      omega
  have hhigh : ∀ i x, i < j → T[i]? = some x → v < x.1 := fun i x hi hx => leadV_lt (f := Prod.fst) T i x (by rw [hj]; exact hi) hx
  have hap : ∀ (i i' : Nat) (x y : Int × Value × List Int), i ≠ i' → T[i]? = some x → T[i']? = some y → ApartV x.2.1 y.2.1 := fun i i' x y hne hx hy =>
    pairwise_at (fun a b h => h.symm) _ i i' x.2.1 y.2.1 hA (by rw [List.getElem?_map, hx]; rfl) (by rw [List.getElem?_map, hy]; rfl) hne
  by_cases hex : ∃ iv p, T[j]? = some (v, iv, p)
  · obtain ⟨iv, p, hx⟩ := hex
    have hjlt : j < T.length := (List.getElem?_eq_some_iff.1 hx).1
    have hne : ∀ i x, i ≠ j → T[i]? = some x → x.1 ≠ v := fun i x hi hxi e => by
      by_cases hlt : i < j
      · have := hhigh i x hlt hxi; omega
      · have := List.pairwise_iff_getElem.1 hdesc j i hjlt (List.getElem?_eq_some_iff.1 hxi).1 (by omega)
        rw [(List.getElem?_eq_some_iff.1 hxi).2, (List.getElem?_eq_some_iff.1 hx).2] at this
        simp only at this
        omega
    have hdat : ∀ s, datT (T.set j (v, s, p ++ [t])) = insP v t (datT T) := fun s => by
      rw [datT_set, insP_old v t (datT T) p (by rw [hjd]; exact datT_get hx), hjd]
    have hdesc' : ∀ s, (T.set j (v, s, p ++ [t])).Pairwise (fun a b => b.1 < a.1) := fun s => by
      have h1 := insP_desc (v := v) (t := t) (datT T) (by rw [hd]; exact splitP_desc V gg k)
      rw [← hdat s] at h1
      unfold datT at h1
      rwa [List.pairwise_map] at h1
    have hmem : ∀ s x, x ∈ T.set j (v, s, p ++ [t]) → x = (v, s, p ++ [t]) ∨ (x ∈ T ∧ x.1 ≠ v) := fun s x hxm => by
      obtain ⟨i, hi⟩ := List.mem_iff_getElem?.1 hxm
      by_cases e : i = j
      · subst e
        rw [List.getElem?_set_self hjlt] at hi
        exact .inl (Option.some.inj hi).symm
      · rw [List.getElem?_set_ne (Ne.symm e)] at hi
        exact .inr ⟨List.mem_iff_getElem?.2 ⟨i, hi⟩, hne i x e hi⟩
    have hmem' : ∀ s x, x ∈ T → x.1 ≠ v → x ∈ T.set j (v, s, p ++ [t]) := fun s x hxm hv => by
      obtain ⟨i, hi⟩ := List.mem_iff_getElem?.1 hxm
      have e : i ≠ j := fun e => by subst e; rw [hx] at hi; cases hi; exact hv rfl
      exact List.mem_iff_getElem?.2 ⟨i, by rw [List.getElem?_set_ne (Ne.symm e)]; exact hi⟩
    refine ⟨iv, p, fun s => T.set j (v, s, p ++ [t]), ?_, ?_, hdat, ?_, ?_, hmem, ?_, ?_, split_lens (V := V) (gg := gg) k (v, p) (by rw [← hd]; exact List.mem_iff_getElem?.2 ⟨j, datT_get hx⟩)⟩
    · have h1 : findI T v = some iv := (findI_iff hdesc).2 ⟨_, List.mem_iff_getElem?.2 ⟨j, hx⟩, rfl, rfl⟩
      show (findI T v).getD _ = iv
      rw [h1]; rfl
    · exact hO _ (List.mem_iff_getElem?.2 ⟨j, hx⟩)
    · intro s
      exact (findI_iff (hdesc' s)).2 ⟨(v, s, p ++ [t]), List.mem_iff_getElem?.2 ⟨j, List.getElem?_set_self hjlt⟩, rfl, rfl⟩
    · intro s z hz
      cases hz2 : z with
      | int kd s2 =>
        cases kd
        case i64 =>
          subst hz2
          have hsv : s2 ≠ v := fun e => hz (by rw [e])
          show findI _ s2 = findI _ s2
          refine opt_ext fun u => ?_
          rw [findI_iff (hdesc' s), findI_iff hdesc]
          constructor
          · rintro ⟨x, hxm, h1, h2⟩
            rcases hmem s x hxm with rfl | ⟨h3, _⟩
            · exact absurd h1.symm hsv
            · exact ⟨x, h3, h1, h2⟩
          · rintro ⟨x, hxm, h1, h2⟩
            exact ⟨x, hmem' s x hxm (by rw [h1]; exact hsv), h1, h2⟩
        all_goals rfl
      | _ => rfl
    · intro s hs
      rw [List.map_set]
      refine pairwise_set (fun a b h => h.symm) _ j s hA fun i y hi hy => ?_
      rw [List.getElem?_map] at hy
      obtain ⟨x, hx1, rfl⟩ := Option.map_eq_some_iff.1 hy
      exact hs x (List.mem_iff_getElem?.2 ⟨i, hx1⟩) (hne i x hi hx1)
    · intro x hxm hv
      obtain ⟨i, hi⟩ := List.mem_iff_getElem?.1 hxm
      exact hap j i _ x (fun e => by subst e; rw [hx] at hi; cases hi; exact hv rfl) hx hi
  · have hne : ∀ x ∈ T, x.1 ≠ v := fun x hxm e => by
      obtain ⟨i, hi⟩ := List.mem_iff_getElem?.1 hxm
      by_cases hlt : i < j
      · have := hhigh i x hlt hi; omega
      · by_cases e2 : i = j
        · subst e2; exact hex ⟨x.2.1, x.2.2, by rw [hi, ← e]⟩
        · have h1 : j < T.length := by have := (List.getElem?_eq_some_iff.1 hi).1; omega
          have h2 := hlow j _ (Nat.le_refl _) (List.getElem?_eq_getElem h1)
          have h3 := List.pairwise_iff_getElem.1 hdesc j i h1 (List.getElem?_eq_some_iff.1 hi).1 (by omega)
          rw [(List.getElem?_eq_some_iff.1 hi).2] at h3
          omega
    have hdat : ∀ s, datT (gapA T j (v, s, [t])) = insP v t (datT T) := fun s => by
      rw [datT_gap, insP_new v t (datT T) (by
        rw [hjd]; intro x hx e
        obtain ⟨iv, h1⟩ := datT_some (x := x) hx
        exact hex ⟨iv, x.2, by rw [h1, e]⟩), hjd]
    have hdesc' : ∀ s, (gapA T j (v, s, [t])).Pairwise (fun a b => b.1 < a.1) := fun s => by
      have h1 := insP_desc (v := v) (t := t) (datT T) (by rw [hd]; exact splitP_desc V gg k)
      rw [← hdat s] at h1
      unfold datT at h1
      rwa [List.pairwise_map] at h1
    have hin : ∀ s x, x ∈ T → x ∈ gapA T j (v, s, [t]) := fun s x hxm => by
      unfold gapA
      rw [List.mem_append, List.mem_cons]
      rw [← List.take_append_drop j T, List.mem_append] at hxm
      rcases hxm with h | h
      · exact .inl h
      · exact .inr (.inr h)
    have hself : ∀ s, (v, s, [t]) ∈ gapA T j (v, s, [t]) := fun s => by unfold gapA; simp
    refine ⟨.slice none 0 0, [], fun s => gapA T j (v, s, [t]), ?_, World.ownsRow_nil _ _ _ _, hdat, ?_, ?_, ?_, ?_, ?_, Nat.zero_le _⟩
    · have h1 : findI T v = none := by
        cases hf : findI T v with
        | none => rfl
        | some u =>
          obtain ⟨x, hx, h1, _⟩ := (findI_iff hdesc).1 hf
          exact absurd h1 (hne x hx)
      show (findI T v).getD _ = _
      rw [h1]; rfl
    · intro s
      exact (findI_iff (hdesc' s)).2 ⟨_, hself s, rfl, rfl⟩
    · intro s z hz
      cases hz2 : z with
      | int kd s2 =>
        cases kd
        case i64 =>
          subst hz2
          have hsv : s2 ≠ v := fun e => hz (by rw [e])
          show findI _ s2 = findI _ s2
          refine opt_ext fun u => ?_
          rw [findI_iff (hdesc' s), findI_iff hdesc]
          constructor
          · rintro ⟨x, hxm, h1, h2⟩
            rcases gapA_mem hxm with rfl | h3
            · exact absurd h1.symm hsv
            · exact ⟨x, h3, h1, h2⟩
          · rintro ⟨x, hxm, h1, h2⟩
            exact ⟨x, hin s x hxm, h1, h2⟩
        all_goals rfl
      | _ => rfl
    · intro s x hxm
      rcases gapA_mem hxm with h | h
      · exact .inl h
      · exact .inr ⟨h, hne x h⟩
    · intro s hs
      rw [gapA_map]
      refine gapA_pairwise hA (fun y hy => ?_) (fun y hy => ?_)
      · obtain ⟨x, hx, rfl⟩ := List.mem_map.1 hy
        exact (hs x hx (hne x hx)).symm
      · obtain ⟨x, hx, rfl⟩ := List.mem_map.1 hy
        exact hs x hx (hne x hx)
    · intro x hx hv k hk
      simp [Value.ownBlock] at hk
def GroupSt (w : World) (B m k : Nat) (T : List (Int × Value × List Int)) : Prop := OwnT w B 3 T ∧ ApartL (T.map fun x => x.2.1) ∧ ValMap Tryz.prog w 3 m k (findT T) ∧ m < B
theorem GroupSt.below {w w' : World} {B m k : Nat} {T : List (Int × Value × List Int)} (h : GroupSt w B m k T) (hb : Below w.heap.size w w') : GroupSt w' B m k T :=
  ⟨h.1.below hb (Nat.le_refl _), h.2.1, h.2.2.1.below hb (Nat.le_refl _), h.2.2.2⟩
theorem GroupSt.made (w : World) (k : Nat) : GroupSt (w.alloc (.map #[] 0)) (w.heap.size + 1) w.heap.size k [] :=
  ⟨fun x hx => (by cases hx), List.Pairwise.nil, by
    refine ((ValMap.made w Tryz.prog 3).mono (Nat.zero_le k)).congr fun s => ?_
    unfold findT; split <;> rfl, Nat.lt_succ_self _⟩
theorem GroupSt.kept {w w' : World} {B m k : Nat} {T : List (Int × Value × List Int)} {iv : Value} {n : Nat} {xs : List Value} (h : GroupSt w B m k T) (ho : w.ownsRow B 3 1 iv n xs) (hg : w.grownBy w' iv.ownBlock) : ValMap Tryz.prog w' 3 m k (findT T) :=
  h.2.2.1.grown hg (fun e => by have := (ho.lt m e.symm).1; have := h.2.2.2; omega)
theorem GroupSt.step {w w5 w6 : World} {B m k g c : Nat} {T : List (Int × Value × List Int)} {v t : Int} {iv : Value} {p : List Int} {T' : Value → List (Int × Value × List Int)} (h : GroupSt w B m k T) (hs : StepT w B k T v t iv p T')
    (hg5 : w.grownBy w5 iv.ownBlock) (ho5 : w5.ownsRow B 3 1 (.slice (some ⟨g, 0, none⟩) (p.length + 1) c) (p.length + 1) (p.map (Value.int .i64) ++ [.int .i64 t])) (hat : iv.ownBlock = some g ∨ w.heap.size ≤ g)
    (hg6 : w5.grownBy w6 (some m)) (hm6 : ValMap Tryz.prog w6 3 m (k + 1) (findT (T' (.slice (some ⟨g, 0, none⟩) (p.length + 1) c)))) : GroupSt w6 B m (k + 1) (T' (.slice (some ⟨g, 0, none⟩) (p.length + 1) c)) := by
  have hgB : B ≤ g := (ho5.lt g rfl).1
  have hmg : some m ≠ some g := by have := h.2.2.2; intro e; cases e; omega
  refine ⟨fun x hx => ?_, hs.apart _ fun x hx hne => ?_, hm6, h.2.2.2⟩
  · rcases hs.mem _ x hx with rfl | ⟨hxT, hne⟩
    · have := ho5.kept hg6 (.inr (by simpa [Value.ownBlock] using hmg.symm))
      simpa using this
    · have h1 := h.1 x hxT
      have h2 := kept_apart h1 (hs.parted x hxT hne) hg5
      refine h2.kept hg6 ?_
      cases hk : x.2.1.ownBlock with
      | none => exact .inl rfl
      | some q => exact .inr (by have := (h1.lt q hk).1; have := h.2.2.2; intro e; cases e; omega)
  · intro q hq e2
    have hq' : g = q := by simpa [Value.ownBlock] using hq
    subst hq'
    exact fresh_ne (h.1 x hx) (hs.parted x hx hne) hat e2
theorem desc_unique : ∀ (L L' : List Int), L.Pairwise (fun a b => b < a) → L'.Pairwise (fun a b => b < a) → (∀ s, s ∈ L ↔ s ∈ L') → L = L'
  | [], [], _, _, _ => rfl
  | [], y :: L', _, _, h => absurd ((h y).2 (List.mem_cons_self ..)) (by simp)
  | x :: L, [], _, _, h => absurd ((h x).1 (List.mem_cons_self ..)) (by simp)
  | x :: L, y :: L', h1, h2, h => by
    have a1 := List.pairwise_cons.1 h1
    have a2 := List.pairwise_cons.1 h2
    have e : x = y := by
      rcases List.mem_cons.1 ((h x).1 (List.mem_cons_self ..)) with e | e
      · exact e
      · rcases List.mem_cons.1 ((h y).2 (List.mem_cons_self ..)) with e' | e'
        · exact e'.symm
        · have := a2.1 x e; have := a1.1 y e'; omega
    subst e
    rw [desc_unique L L' a1.2 a2.2 fun s => ?_]
    constructor
    · intro hs
      rcases List.mem_cons.1 ((h s).1 (List.mem_cons_of_mem _ hs)) with e | e
      · have := a1.1 s hs; omega
      · exact e
    · intro hs
      rcases List.mem_cons.1 ((h s).2 (List.mem_cons_of_mem _ hs)) with e | e
      · have := a2.1 s hs; omega
      · exact e
end Go.Proofs.YteciobkjfmddcaaGreatDoor
set_option linter.unusedVariables false
namespace Go.Proofs.YteciobkjfmddcaaGreatDoor
open Go.RowKit Go.Maps Go.Sort Go.Shelf

def descC (a b : Int) : Int := Lib.compareInt b a
theorem descLt (a b : Int) : ltOf descC a b = decide (b < a) := by
  unfold ltOf descC Lib.compareInt
  by_cases h1 : b < a
  · simp [h1]
  · by_cases h2 : a < b <;> simp [h1, h2]
theorem descSwo : SWO (ltOf descC) where
  irrefl x := by rw [descLt]; simp
  trans x y z h1 h2 := by rw [descLt] at *; simp at *; omega
  ntrans x y z h1 h2 := by rw [descLt] at *; simp at *; omega
theorem descend_impl (x y : Int) (W : World) : Calls Tryz.prog 74 #[.int .i64 x, .int .i64 y] W fun e w' => e = .returned (.int .i64 (descC x y)) ∧ ∃ q, w' = W.drewN q := by
  have hcon := fun x y W' => AnyG.cmp_Compare_int Tryz.cmpDL x y W'
  change ∀ x y W', Calls Tryz.prog 90 _ _ _ at hcon
  have HC := Lib.hid hcon
  clear hcon
  unfold descC
  generalize hr : Lib.compareInt y x = r
  have HR := Lib.hid hr
  clear hr
  go_enter Tryz.func74, Tryz.ntmps74
  go_wp2_with (go_at_call 90; refine (HC.out _ _ _).mono ?_; rintro e w1 ⟨rfl, hw⟩; subst hw)
  go_ret
  exact ⟨by rw [← HR.out]; rfl, 0, rfl⟩
theorem sortDesc (blk cap base : Nat) (ss : List Int) (w : World) (hown : w.ownsRow base 3 1 (.slice (some ⟨blk, 0, none⟩) ss.length cap) ss.length (ss.map (Value.int .i64))) (hsz : ss.length < 4611686018427387904) :
    Calls Tryz.prog 88 #[.slice (some ⟨blk, 0, none⟩) ss.length cap, .func (.func 74) #[] #[]] w fun e w' =>
      e = .returned (.tuple #[]) ∧ ∃ ts : List Int, ts.Perm ss ∧ ts.Pairwise (fun a b => b ≤ a) ∧ w'.ownsRow base 3 1 (.slice (some ⟨blk, 0, none⟩) ts.length cap) ts.length (ts.map (Value.int .i64)) ∧ w.grownBy w' (some blk) := by
  rcases hown.2 with ⟨h', _⟩ | ⟨g', cap', cur, h', hbg, hgg, hnc, hcm, hcs, htake⟩
  · simp at h'
  simp only [Value.slice.injEq, Option.some.injEq, Addr.mk.injEq, and_true, true_and] at h'
  obtain ⟨rfl, rfl⟩ := h'
  have eg : ∀ args w, (callFunc 74 args).run Tryz.prog w = .ok (.enter 74 args) w := enters_of Tryz.func74 (by kernel_rfl) rfl
  have hcmp : CmpReads Tryz.prog 74 #[] (Value.int .i64) descC blk 0 ss.toArray.size w := by
    intro q os dk hdk x y
    exact descend_impl x y _
  have hH : Holds (Value.int .i64) w blk 0 ss.toArray := holds_of_blockI hgg (by simpa using htake)
  have hblk : blk < w.heap.size := (Array.getElem?_eq_some_iff.1 hgg).1
  have h := Any.slices_SortFunc_total Tryz.sortDL (Value.int .i64) (fun _ => rfl) descC descSwo 74 #[] blk 0 cap ss.toArray w eg hcmp.lays hH hblk (by simpa using hsz)
    (fun x y h1 h2 => by rw [descLt] at h1 h2; simp at h1 h2; omega)
  simp only [List.size_toArray] at h
  refine h.mono ?_
  rintro e w' ⟨he, n, os, rfl⟩
  obtain ⟨ts, hts⟩ : ∃ ts, ss.mergeSort (fun x y => !(ltOf descC) y x) = ts := ⟨_, rfl⟩
  have hperm : ts.Perm ss := by rw [← hts]; exact List.mergeSort_perm _ _
  have hlen := hperm.length_eq
  refine ⟨he, ts, hperm, ?_, ?_, ?_⟩
  · rw [← hts]
    have hp : (ss.mergeSort (fun x y => !(ltOf descC) y x)).Pairwise (fun a b => (!(ltOf descC) b a) = true) := List.pairwise_mergeSort (fun a b c h1 h2 => by simp only [descLt] at *; simp at *; omega) (fun a b => by simp only [descLt]; simp; omega) ss
    exact hp.imp fun h => by rw [descLt] at h; simp at h; omega
  · have h2 := ownsRow_sortedI (base := base) (n := n) (os := os) (ss := ss) (ts := ts) hlen hbg hgg hnc hcm hcs
    rw [hlen]
    unfold sortWorld
    rw [hts]
    exact h2
  · have h2 := grownBy_sortedI (w := w) (g := blk) (n := n) (os := os) ts.toArray
    unfold sortWorld
    rw [hts]
    exact h2
theorem keysI_impl (mb : Option Nat) (W : World) : Calls Tryz.prog 73 #[.map mb] W fun e w' => e = .returned (.func (.func 89) #[] #[.pointer (some ⟨W.heap.size, 0, none⟩)]) ∧ w' = W.alloc (.cells #[.map mb] 107) :=
  callsIn_wide.1 (AnyZI.keys_in Tryz.keysDL Fence.wide 5 trivial rfl mb W)
set_option maxHeartbeats 1000000 in
theorem sortedDesc_impl (m n : Nat) (F : Lit → Option Value) (w : World) (hm : ValMap Tryz.prog w 3 m n F) (hi : ∀ kl v, F kl = some v → ∃ s, kl = .int .i64 s) (hn : n ≤ 1048576) :
    Calls Tryz.prog 72 #[.func (.func 89) #[] #[.pointer (some ⟨w.heap.size, 0, none⟩)], .func (.func 74) #[] #[]] (w.alloc (.cells #[.map (some m)] 107)) fun e w' =>
      ∃ (v : Value) (L : List Int), e = .returned v ∧ L.Pairwise (fun a b => b < a) ∧ (∀ s, s ∈ L ↔ ∃ u, F (.int .i64 s) = some u) ∧ w'.ownsRow (w.alloc (.cells #[.map (some m)] 107)).heap.size 3 1 v L.length (L.map (Value.int .i64)) ∧ L.length ≤ n ∧
        Below (w.alloc (.cells #[.map (some m)] 107)).heap.size (w.alloc (.cells #[.map (some m)] 107)) w' := by
  obtain ⟨D, ho, hD⟩ := hm
  have hbl := ho.lt
  have hsz := ho.size_le
  obtain ⟨hnd, hmem, hkl⟩ := MapV.keys kInt hi ho hD
  have hseq : SeqGives Fence.wide 3 Tryz.prog 89 #[.pointer (some ⟨w.heap.size, 0, none⟩)] encZ (fun ss => ss.Perm (Go.intKeys D)) (Maps.size D) (w.alloc (.cells #[.map (some m)] 107)) :=
    AnyZI.keys_gives (ρ := Tryz.keysDL_ren) { Tryz.keysDL with } Fence.wide _ trivial rfl (by omega) w.heap.size m n D _ (by simp) (by simp) (by
      obtain ⟨es, clock, hb, Ft, hs, hD⟩ := ho
      exact ⟨es, clock, (Below.heap_alloc _ _ m hbl).trans hb, Ft, hs, hD⟩)
  generalize w.alloc (.cells #[.map (some m)] 107) = wa at *
  generalize (.pointer (some ⟨w.heap.size, 0, none⟩) : Value) = pv at *
  have cC := callsIn_wide.1 (AnyZI.collect_in Tryz.collectDL Fence.wide 5 trivial trivial rfl (by omega) 89 #[pv] trivial (Go.Proofs.enters_of Tryz.func89 (by kernel_rfl) rfl) _ (Maps.size D) (by unfold maxLen; omega) (by omega) _ hseq)
  have CC := Lib.hid cC
  have CN := Lib.hid (fun p cap fv W => AnyF.slices_SortFunc_none { Tryz.sortDL with } p cap fv W)
  have HND := Lib.hid hnd
  have HMEM := Lib.hid hmem
  have HLEN := Lib.hid (Nat.le_trans (Nat.le_of_eq hkl) hsz)
  clear cC hseq hnd hmem hkl hbl hsz ho hD hi
  go_enter Tryz.func72, Tryz.ntmps72
  go_wp2_with fail
  refine CC.out.mono ?_
  rintro e w1 ⟨v, ss, rfl, hS, hrow, hnil, hb⟩
  have hSn : ss.Nodup := hS.nodup_iff.2 HND.out
  have hSl : ss.length ≤ n := by rw [hS.length_eq]; exact HLEN.out
  have HSm : Hid (∀ s, s ∈ ss ↔ ∃ u, F (.int .i64 s) = some u) := fun s => by rw [hS.mem_iff]; exact HMEM.out s
  cases ss with
  | nil =>
    obtain rfl := hnil.2 rfl
    have HB := Lib.hid hb
    clear hS hrow hnil hb hSn CC
    go_wp2_with fail
    refine (CN.out _ _ _ _).mono ?_
    rintro e w2 ⟨rfl, rfl⟩
    go_wp2
    go_ret
    exact ⟨_, [], rfl, List.Pairwise.nil, HSm.out, World.ownsRow_nil _ _ _ _, Nat.zero_le _, HB.out⟩
  | cons x xs =>
    obtain ⟨blk, cap, rfl⟩ : ∃ blk cap, v = .slice (some ⟨blk, 0, none⟩) (x :: xs).length cap := by
      rcases hrow.2 with ⟨h', h0⟩ | ⟨g', cap', cur, h', _⟩
      · simp at h0
      · exact ⟨g', cap', h'⟩
    generalize hzs : x :: xs = zs at *
    have hne : 0 < zs.length := by rw [← hzs]; simp
    have hbs := hrow.lt blk rfl
    have CS := Lib.hid (sortDesc blk cap _ zs w1 hrow (by omega))
    have HB := Lib.hid hb
    have HND2 := Lib.hid hSn
    clear hS hrow hnil hb hzs CC CN hSn
    go_wp2_with fail
    refine CS.out.mono ?_
    rintro e w2 ⟨rfl, ts, hp, hpw, ho, hg⟩
    have hl := hp.length_eq
    have HL := Lib.hid hl
    have HO := Lib.hid ho
    have HB2 := Lib.hid (HB.out.grown hg HB.out.size (fun k e => by cases e; exact hbs.1))
    have HM2 : Hid (∀ s, s ∈ ts ↔ ∃ u, F (.int .i64 s) = some u) := fun s => by rw [hp.mem_iff]; exact HSm.out s
    have HPW : Hid (ts.Pairwise (fun a b => b < a)) := (hpw.and (hp.nodup_iff.2 HND2.out)).imp fun h => by have h1 := h.1; have h2 := h.2; omega
    clear hp hpw ho hg hl
    go_wp2
    go_ret
    refine ⟨_, ts, rfl, HPW.out, HM2.out, ?_, by rw [HL.out]; exact hSl, HB2.out⟩
    rw [← HL.out]
    exact HO.out
end Go.Proofs.YteciobkjfmddcaaGreatDoor
