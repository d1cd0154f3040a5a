/-
  A map[K]bool that the call makes and asks ('if seen[x]'): laws of our own over any program. And how many times a key was counted (map[K]int).
-/
import Derived.Maps.OwnOps
import Derived.Maps.OwnSet
import Derived.Maps.Views
import Derived.Maps.RangeWalk
import Derived.Test.YtlahjaakegdigaaKit
set_option linter.unusedVariables false
namespace Go.Proofs.Ytlahjaakegdigaa
open Go.RowKit Go.Maps

theorem plainElem_bool_inv {H : Type} {P : Program} {e : TypeId} (he : P.underlying e = some .bool) {v : Value} {z : DataW H × List MemPlace} (h : plainElem P e v = some z) : ∃ x, v = .bool x ∧ z = (.lit (.bool x), []) := by
  unfold plainElem at h
  rw [he] at h
  cases v <;> simp at h
  exact ⟨_, rfl, h.symm⟩

/-- block b of w is a map of at most n entries that says true at the keys of L, and false at all else -/
def BoolMap (P : Program) (w : World) (k e : TypeId) (b n : Nat) (L : List Lit) : Prop :=
  ∃ D : DataW Unit, w.ownsMap P k (plainElem P e) b n D ∧ ∀ kl, (kl ∈ L → D.atKey kl (.lit (.bool false)) = .lit (.bool true)) ∧ (kl ∉ L → D.atKey kl (.lit (.bool false)) = .lit (.bool false))
section
variable {P : Program} {w w' : World} {k e t : TypeId} {b n : Nat} {L : List Lit}
theorem BoolMap.made (w : World) (P : Program) (k e : TypeId) : BoolMap P (w.alloc (.map #[] 0)) k e w.heap.size 0 [] :=
  ⟨.map [], World.ownsMap_made w P k _, fun kl => ⟨fun h => by simp at h, fun _ => rfl⟩⟩
theorem BoolMap.grown {row : Option Nat} (h : BoolMap P w k e b n L) (hg : w.grownBy w' row) (hne : some b ≠ row) : BoolMap P w' k e b n L := by
  obtain ⟨D, ho, hD⟩ := h
  exact ⟨D, ho.kept hg hne, hD⟩
theorem BoolMap.below {B : Nat} (h : BoolMap P w k e b n L) (hb : Below B w w') (hB : w.heap.size ≤ B) : BoolMap P w' k e b n L := h.grown (below_grown hb hB) (by simp)
theorem BoolMap.alloc (h : BoolMap P w k e b n L) (o : Obj) : BoolMap P (w.alloc o) k e b n L := h.grown (World.grownBy_alloc w o none) (by simp)
theorem BoolMap.lt (h : BoolMap P w k e b n L) : b < w.heap.size := by
  obtain ⟨D, ho, _⟩ := h
  exact ho.lt
theorem BoolMap.run {key : Value} {kl : Lit} (h : BoolMap P w k e b n L) (K : Keyed P k) (ht : P.underlying t = some (.map k e)) (he : P.underlying e = some .bool) (hz : (zeroValue e).run P w = .ok (.bool false) w) (hkey : keyOf P k key = some kl) :
    (kl ∈ L → (Instr.lookup t (.map (some b)) key false).run P w = .ok (.bool true) w) ∧ (kl ∉ L → (Instr.lookup t (.map (some b)) key false).run P w = .ok (.bool false) w) := by
  obtain ⟨D, ho, hD⟩ := h
  obtain ⟨v, ps, hrun, hv⟩ := ho.lookup K ht hz (plainElem_bool he false) hkey
  obtain ⟨x, rfl, hx⟩ := plainElem_bool_inv he hv
  simp only [Prod.mk.injEq] at hx
  refine ⟨fun h => ?_, fun h => ?_⟩
  · have := (hD kl).1 h
    rw [hx.1] at this
    simp only [DataW.lit.injEq, Lit.bool.injEq] at this
    rw [hrun, this]
  · have := (hD kl).2 h
    rw [hx.1] at this
    simp only [DataW.lit.injEq, Lit.bool.injEq] at this
    rw [hrun, this]
/-- 'm[key] = true' -/
theorem wpList_boolTrue {ops : Array Oper} {rest : List Oper} {o : Oper} {a : Act} {Q : Exit → Act → World → Prop} (hg : o.guard = none) (m x v : Operand) (t : TypeId) (hop : o.op = Op.mapUpdate t m x v)
    (k e : TypeId) (K : Keyed P k) (ht : P.underlying t = some (.map k e)) (he : P.underlying e = some .bool) (b n : Nat) (L : List Lit)
    (hm : a.eval m = .map (some b)) (hown : BoolMap P w k e b n L) (hn : n < maxLen) (key : Value) (kl : Lit) (hx : a.eval x = key) (hv : a.eval v = .bool true) (hkey : keyOf P k key = some kl) (hk : WideAt.IsKeyLit kl)
    (hK : ∀ w', BoolMap P w' k e b (n + 1) (kl :: L) → w.grownBy w' (some b) → wpList P ops Q rest (a.put o.dst undef) w') :
    wpList P ops Q (o :: rest) a w := by
  obtain ⟨D, ho, hD⟩ := hown
  refine wpList_mapUpdate_own w hg m x v t hop k e K ht (plainElem P e) b n D hm ho hn key (.bool true) kl hx hv hkey (.lit (.bool true)) [] (plainElem_bool he true) fun w' h1 h2 => ?_
  refine hK w' ⟨_, h1, fun kl' => ?_⟩ h2
  by_cases hkk : kl' = kl
  · subst hkk
    exact ⟨fun _ => atKey_put_same ho.isMap hk _ _, fun h => absurd (List.mem_cons_self ..) h⟩
  · rw [atKey_put_other hkk]
    refine ⟨fun h => (hD kl').1 ?_, fun h => (hD kl').2 ?_⟩
    · rcases List.mem_cons.1 h with h | h
      · exact absurd h hkk
      · exact h
    · exact fun h' => h (List.mem_cons_of_mem _ h')
end

/-- block b of w is a map of at most n entries that holds, at each key, how often it was counted (never 0) -/
def CountMap (P : Program) (w : World) (k e : TypeId) (b n : Nat) (C : Lit → Nat) : Prop :=
  ∃ D : DataW Unit, w.ownsMap P k (plainElem P e) b n D ∧ (∀ kl, Maps.has D kl = true ↔ 0 < C kl) ∧ ∀ kl, D.atKey kl (.lit (.int .i64 0)) = .lit (.int .i64 (C kl))
open Classical in
noncomputable def oneMore (C : Lit → Nat) (kl : Lit) : Lit → Nat := fun z => C z + if z = kl then 1 else 0
/-- 'for .. range m' is under way over such a map -/
def CountRange (P : Program) (w : World) (k e : TypeId) (b r n : Nat) (C : Lit → Nat) (left : Lit → Bool) (cnt : Nat) : Prop :=
  ∃ D : DataW Unit, w.ranges P k (plainElem P e) b r n D left cnt ∧ ∀ kl, D.atKey kl (.lit (.int .i64 0)) = .lit (.int .i64 (C kl))
section
variable {P : Program} {w w' : World} {k e t : TypeId} {b n r cnt : Nat} {C : Lit → Nat} {left : Lit → Bool}
theorem CountMap.made (w : World) (P : Program) (k e : TypeId) : CountMap P (w.alloc (.map #[] 0)) k e w.heap.size 0 (fun _ => 0) :=
  ⟨.map [], World.ownsMap_made w P k _, fun kl => ⟨fun h => by simp [Maps.has_eq] at h, fun h => by simp at h⟩, fun kl => rfl⟩
theorem CountMap.grown {row : Option Nat} (h : CountMap P w k e b n C) (hg : w.grownBy w' row) (hne : some b ≠ row) : CountMap P w' k e b n C := by
  obtain ⟨D, ho, hD⟩ := h
  exact ⟨D, ho.kept hg hne, hD⟩
theorem CountMap.below {B : Nat} (h : CountMap P w k e b n C) (hb : Below B w w') (hB : w.heap.size ≤ B) : CountMap P w' k e b n C := h.grown (below_grown hb hB) (by simp)
theorem CountMap.alloc (h : CountMap P w k e b n C) (o : Obj) : CountMap P (w.alloc o) k e b n C := h.grown (World.grownBy_alloc w o none) (by simp)
theorem CountMap.lt (h : CountMap P w k e b n C) : b < w.heap.size := by
  obtain ⟨D, ho, _⟩ := h
  exact ho.lt
/-- 'm[key]' -/
theorem wpList_countLook {ops : Array Oper} {rest : List Oper} {o : Oper} {a : Act} {Q : Exit → Act → World → Prop} (hg : o.guard = none) (m x : Operand) (t : TypeId) (hop : o.op = Op.lookup t m x false)
    (k e : TypeId) (K : Keyed P k) (ht : P.underlying t = some (.map k e)) (he : P.underlying e = some (.int .i64)) (hz : (zeroValue e).run P w = .ok (.int .i64 0) w) (b n : Nat) (C : Lit → Nat)
    (hm : a.eval m = .map (some b)) (hown : CountMap P w k e b n C) (key : Value) (kl : Lit) (hx : a.eval x = key) (hkey : keyOf P k key = some kl)
    (hK : wpList P ops Q rest (a.put o.dst (.int .i64 (C kl))) w) :
    wpList P ops Q (o :: rest) a w := by
  obtain ⟨D, ho, _, hD⟩ := hown
  refine wpList_lookup_own_int w hg m x t hop k e .i64 K ht he hz b n D hm ho key kl hx hkey fun c hc _ => ?_
  rw [hD kl] at hc
  simp only [DataW.lit.injEq, Lit.int.injEq, true_and] at hc
  rw [← hc]
  exact hK
/-- 'm[key] = v' where v is one more than it held -/
theorem wpList_countMore {ops : Array Oper} {rest : List Oper} {o : Oper} {a : Act} {Q : Exit → Act → World → Prop} (hg : o.guard = none) (m x v : Operand) (t : TypeId) (hop : o.op = Op.mapUpdate t m x v)
    (k e : TypeId) (K : Keyed P k) (ht : P.underlying t = some (.map k e)) (he : P.underlying e = some (.int .i64)) (b n : Nat) (C : Lit → Nat)
    (hm : a.eval m = .map (some b)) (hown : CountMap P w k e b n C) (hn : n < maxLen) (key : Value) (kl : Lit) (hx : a.eval x = key) (hv : a.eval v = .int .i64 ((C kl : Int) + 1)) (hsm : C kl < 1000000000) (hkey : keyOf P k key = some kl) (hk : WideAt.IsKeyLit kl)
    (hK : ∀ w', CountMap P w' k e b (n + 1) (oneMore C kl) → w.grownBy w' (some b) → wpList P ops Q rest (a.put o.dst undef) w') :
    wpList P ops Q (o :: rest) a w := by
  obtain ⟨D, ho, hh, hD⟩ := hown
  refine wpList_mapUpdate_own w hg m x v t hop k e K ht (plainElem P e) b n D hm ho hn key _ kl hx hv hkey (.lit (.int .i64 ((C kl : Int) + 1))) [] (plainElem_int he (WalkArith.wf_i64 (by omega))) fun w' h1 h2 => ?_
  refine hK w' ⟨_, h1, fun kl' => ?_, fun kl' => ?_⟩ h2
  · by_cases hkk : kl' = kl
    · subst hkk
      rw [Maps.has_put_same ho.isMap hk]
      simp [oneMore]
    · rw [Maps.has_put_other hkk, hh kl']
      simp [oneMore, hkk]
  · by_cases hkk : kl' = kl
    · subst hkk
      rw [atKey_put_same ho.isMap hk]
      simp [oneMore]
    · rw [atKey_put_other hkk, hD kl']
      simp [oneMore, hkk]
/-- 'range m' -/
theorem wpList_countRange {ops : Array Oper} {rest : List Oper} {o : Oper} {a : Act} {Q : Exit → Act → World → Prop} (hg : o.guard = none) (m : Operand) (t : TypeId) (hop : o.op = Op.range t m) (k e : TypeId) (K : Keyed P k) (ht : P.underlying t = some (.map k e)) (b n : Nat) (C : Lit → Nat)
    (hm : a.eval m = .map (some b)) (hown : CountMap P w k e b n C)
    (hK : ∀ w' left cnt, (∀ kl, left kl = true ↔ 0 < C kl) → CountRange P w' k e b w.heap.size n C left cnt → w.grownBy w' none → wpList P ops Q rest (a.put o.dst (.pointer (some ⟨w.heap.size, 0, none⟩))) w') :
    wpList P ops Q (o :: rest) a w := by
  obtain ⟨D, ho, hh, hD⟩ := hown
  exact wpList_range_own w hg m t hop k e K ht (plainElem P e) b n D hm ho fun w' h1 h2 _ => hK w' _ _ hh ⟨D, h1, hD⟩ h2
/-- the step -/
theorem wpList_countNext {ops : Array Oper} {rest : List Oper} {o : Oper} {a : Act} {Q : Exit → Act → World → Prop} (hg : o.guard = none) (it : Operand) (hop : o.op = Op.next it false) (k e : TypeId) (K : Keyed P k) (hk : P.underlying k = some (.int .i64)) (he : P.underlying e = some (.int .i64))
    (b r n : Nat) (C : Lit → Nat) (left : Lit → Bool) (cnt : Nat) (hit : a.eval it = .pointer (some ⟨r, 0, none⟩)) (h : CountRange P w k e b r n C left cnt)
    (hDone : (∀ kl, left kl = false) → wpList P ops Q rest (a.put o.dst (.tuple #[.bool false])) w)
    (hMore : ∀ (x : Int) (w' : World) (cnt' : Nat), left (.int .i64 x) = true → CountRange P w' k e b r n C (fun z => left z && !z.sameKey (.int .i64 x)) cnt' → cnt' < cnt →
      w.grownBy w' (some r) → (Instr.entry (.pointer (some ⟨r, 0, none⟩))).run P w' = .ok (.tuple #[.int .i64 x, .int .i64 (C (.int .i64 x))]) w' → wpList P ops Q rest (a.put o.dst (.tuple #[.bool true, .int .i64 x, .int .i64 (C (.int .i64 x))])) w') :
    wpList P ops Q (o :: rest) a w := by
  obtain ⟨D, ho, hD⟩ := h
  refine wpList_next_ranges_ii w hg it hop k e .i64 .i64 K hk he b r n D left cnt hit ho (fun _ h => hDone h) fun x c w' cnt' _ _ hl hat hrg hlt hgr _ hen => ?_
  have hc : c = C (.int .i64 x) := by
    have := (hat (.lit (.int .i64 0))).symm.trans (hD _)
    simpa using this
  subst hc
  exact hMore x w' cnt' hl ⟨D, hrg, hD⟩ hlt hgr hen
theorem CountRange.left_eq (h : CountRange P w k e b r n C left cnt) : w.rangeLeft b r = cnt := by
  obtain ⟨D, ho, _⟩ := h
  exact ho.left_eq
end
/-- how many numbers below c are still to come -/
def leftN (left : Lit → Bool) : Nat → Nat
  | 0 => 0
  | c + 1 => leftN left c + if left (.int .i64 (c : Int)) = true then 1 else 0
theorem leftN_congr {l l' : Lit → Bool} : ∀ c : Nat, (∀ j : Nat, j < c → l (.int .i64 (j : Int)) = l' (.int .i64 (j : Int))) → leftN l c = leftN l' c
  | 0, _ => rfl
  | c + 1, h => by
    unfold leftN
    rw [leftN_congr c fun j hj => h j (by omega), h c (by omega)]
theorem leftN_zero {l : Lit → Bool} (h : ∀ kl, l kl = false) : ∀ c, leftN l c = 0
  | 0 => rfl
  | c + 1 => by unfold leftN; rw [leftN_zero h c, h]; rfl
theorem same_int (x y : Int) : (Lit.int .i64 x).sameKey (.int .i64 y) = decide (x = y) := by
  have := WideAt.sameKey_iff (a := .int .i64 x) (b := .int .i64 y) trivial
  by_cases h : x = y
  · subst h; simpa using this
  · rw [decide_eq_false h]
    cases hs : (Lit.int .i64 x).sameKey (.int .i64 y)
    · rfl
    · have := this.1 hs
      simp at this
      exact absurd this h
theorem leftN_strike {l : Lit → Bool} {x : Nat} (hl : l (.int .i64 (x : Int)) = true) : ∀ c, x < c → leftN (fun z => l z && !z.sameKey (.int .i64 (x : Int))) c + 1 = leftN l c
  | 0, h => absurd h (by omega)
  | c + 1, h => by
    by_cases hx : x = c
    · subst hx
      have e1 : leftN (fun z => l z && !z.sameKey (.int .i64 (x : Int))) x = leftN l x := leftN_congr x fun j hj => by
        simp only [same_int]
        rw [decide_eq_false (by omega)]; simp
      unfold leftN
      rw [e1]
      simp [same_int, hl]
    · have := leftN_strike hl c (by omega)
      unfold leftN
      simp only [same_int]
      rw [decide_eq_false (by omega)]
      simp
      omega
end Go.Proofs.Ytlahjaakegdigaa
