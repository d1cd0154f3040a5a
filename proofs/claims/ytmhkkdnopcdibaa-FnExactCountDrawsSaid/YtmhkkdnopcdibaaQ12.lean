/-
  Packed: Maps, FieldMap, ListsImpl, DrwImplA, DrwImplB, DrwImplD.
-/
import Derived.Maps.OwnOps
import Derived.Maps.OwnSet
import Derived.Maps.Views
import Derived.Maps.RangeWalk
import Derived.Test.YtmhkkdnopcdibaaLaysE
import Derived.Deep.DeepCutAuto
import Derived.Test.YtmhkkdnopcdibaaQ1
import Derived.Test.YtmhkkdnopcdibaaQ3
import Derived.Test.YtmhkkdnopcdibaaQ6
import Derived.Test.YtmhkkdnopcdibaaQ9
import Derived.Test.YtmhkkdnopcdibaaQ11
set_option linter.unusedVariables false
namespace Go.Proofs.Ytmhkkdnopcdibaa
open Go.RowKit Go.Maps

theorem plainElem_bool_inv {H : Type} {P : Program} {e : TypeId} (he : P.underlying e = some .bool) {v : Value} {z : DataW H × List MemPlace} (h : plainElem P e v = some z) : ∃ x, v = .bool x ∧ z = (.lit (.bool x), []) := by
  unfold plainElem at h
  rw [he] at h
  cases v <;> simp at h
  exact ⟨_, rfl, h.symm⟩

def BoolMap (P : Program) (w : World) (k e : TypeId) (b n : Nat) (L : List Lit) : Prop :=
  ∃ D : DataW Unit, w.ownsMap P k (plainElem P e) b n D ∧ ∀ kl, (kl ∈ L → D.atKey kl (.lit (.bool false)) = .lit (.bool true)) ∧ (kl ∉ L → D.atKey kl (.lit (.bool false)) = .lit (.bool false))
section
variable {P : Program} {w w' : World} {k e t : TypeId} {b n : Nat} {L : List Lit}
theorem BoolMap.made (w : World) (P : Program) (k e : TypeId) : BoolMap P (w.alloc (.map #[] 0)) k e w.heap.size 0 [] :=
  ⟨.map [], World.ownsMap_made w P k _, fun kl => ⟨fun h => by simp at h, fun _ => rfl⟩⟩
theorem BoolMap.grown {row : Option Nat} (h : BoolMap P w k e b n L) (hg : w.grownBy w' row) (hne : some b ≠ row) : BoolMap P w' k e b n L := by
  obtain ⟨D, ho, hD⟩ := h
  exact ⟨D, ho.kept hg hne, hD⟩
theorem BoolMap.below {B : Nat} (h : BoolMap P w k e b n L) (hb : Below B w w') (hB : w.heap.size ≤ B) : BoolMap P w' k e b n L := h.grown (below_grown hb hB) (by simp)
theorem BoolMap.alloc (h : BoolMap P w k e b n L) (o : Obj) : BoolMap P (w.alloc o) k e b n L := h.grown (World.grownBy_alloc w o none) (by simp)
theorem BoolMap.lt (h : BoolMap P w k e b n L) : b < w.heap.size := by
  obtain ⟨D, ho, _⟩ := h
  exact ho.lt
theorem BoolMap.run {key : Value} {kl : Lit} (h : BoolMap P w k e b n L) (K : Keyed P k) (ht : P.underlying t = some (.map k e)) (he : P.underlying e = some .bool) (hz : (zeroValue e).run P w = .ok (.bool false) w) (hkey : keyOf P k key = some kl) :
    (kl ∈ L → (Instr.lookup t (.map (some b)) key false).run P w = .ok (.bool true) w) ∧ (kl ∉ L → (Instr.lookup t (.map (some b)) key false).run P w = .ok (.bool false) w) := by
  obtain ⟨D, ho, hD⟩ := h
  obtain ⟨v, ps, hrun, hv⟩ := ho.lookup K ht hz (plainElem_bool he false) hkey
  obtain ⟨x, rfl, hx⟩ := plainElem_bool_inv he hv
  simp only [Prod.mk.injEq] at hx
  refine ⟨fun h => ?_, fun h => ?_⟩
  · have := (hD kl).1 h
    rw [hx.1] at this
    simp only [DataW.lit.injEq, Lit.bool.injEq] at this
    rw [hrun, this]
  · have := (hD kl).2 h
    rw [hx.1] at this
    simp only [DataW.lit.injEq, Lit.bool.injEq] at this
    rw [hrun, this]
theorem wpList_boolTrue {ops : Array Oper} {rest : List Oper} {o : Oper} {a : Act} {Q : Exit → Act → World → Prop} (hg : o.guard = none) (m x v : Operand) (t : TypeId) (hop : o.op = Op.mapUpdate t m x v)
    (k e : TypeId) (K : Keyed P k) (ht : P.underlying t = some (.map k e)) (he : P.underlying e = some .bool) (b n : Nat) (L : List Lit)
    (hm : a.eval m = .map (some b)) (hown : BoolMap P w k e b n L) (hn : n < maxLen) (key : Value) (kl : Lit) (hx : a.eval x = key) (hv : a.eval v = .bool true) (hkey : keyOf P k key = some kl) (hk : WideAt.IsKeyLit kl)
    (hK : ∀ w', BoolMap P w' k e b (n + 1) (kl :: L) → w.grownBy w' (some b) → wpList P ops Q rest (a.put o.dst undef) w') :
    wpList P ops Q (o :: rest) a w := by
  obtain ⟨D, ho, hD⟩ := hown
  refine wpList_mapUpdate_own w hg m x v t hop k e K ht (plainElem P e) b n D hm ho hn key (.bool true) kl hx hv hkey (.lit (.bool true)) [] (plainElem_bool he true) fun w' h1 h2 => ?_
  refine hK w' ⟨_, h1, fun kl' => ?_⟩ h2
  by_cases hkk : kl' = kl
  · subst hkk
    exact ⟨fun _ => atKey_put_same ho.isMap hk _ _, fun h => absurd (List.mem_cons_self ..) h⟩
  · rw [atKey_put_other hkk]
    refine ⟨fun h => (hD kl').1 ?_, fun h => (hD kl').2 ?_⟩
    · rcases List.mem_cons.1 h with h | h
      · exact absurd h hkk
      · exact h
    · exact fun h' => h (List.mem_cons_of_mem _ h')
end

def CountMap (P : Program) (w : World) (k e : TypeId) (b n : Nat) (C : Lit → Nat) : Prop :=
  ∃ D : DataW Unit, w.ownsMap P k (plainElem P e) b n D ∧ (∀ kl, Maps.has D kl = true ↔ 0 < C kl) ∧ ∀ kl, D.atKey kl (.lit (.int .i64 0)) = .lit (.int .i64 (C kl))
open Classical in
noncomputable def oneMore (C : Lit → Nat) (kl : Lit) : Lit → Nat := fun z => C z + if z = kl then 1 else 0
def CountRange (P : Program) (w : World) (k e : TypeId) (b r n : Nat) (C : Lit → Nat) (left : Lit → Bool) (cnt : Nat) : Prop :=
  ∃ D : DataW Unit, w.ranges P k (plainElem P e) b r n D left cnt ∧ ∀ kl, D.atKey kl (.lit (.int .i64 0)) = .lit (.int .i64 (C kl))
section
variable {P : Program} {w w' : World} {k e t : TypeId} {b n r cnt : Nat} {C : Lit → Nat} {left : Lit → Bool}
theorem CountMap.made (w : World) (P : Program) (k e : TypeId) : CountMap P (w.alloc (.map #[] 0)) k e w.heap.size 0 (fun _ => 0) :=
  ⟨.map [], World.ownsMap_made w P k _, fun kl => ⟨fun h => by simp [Maps.has_eq] at h, fun h => by simp at h⟩, fun kl => rfl⟩
theorem CountMap.grown {row : Option Nat} (h : CountMap P w k e b n C) (hg : w.grownBy w' row) (hne : some b ≠ row) : CountMap P w' k e b n C := by
  obtain ⟨D, ho, hD⟩ := h
  exact ⟨D, ho.kept hg hne, hD⟩
theorem CountMap.below {B : Nat} (h : CountMap P w k e b n C) (hb : Below B w w') (hB : w.heap.size ≤ B) : CountMap P w' k e b n C := h.grown (below_grown hb hB) (by simp)
theorem CountMap.alloc (h : CountMap P w k e b n C) (o : Obj) : CountMap P (w.alloc o) k e b n C := h.grown (World.grownBy_alloc w o none) (by simp)
theorem CountMap.lt (h : CountMap P w k e b n C) : b < w.heap.size := by
  obtain ⟨D, ho, _⟩ := h
  exact ho.lt
theorem wpList_countLook {ops : Array Oper} {rest : List Oper} {o : Oper} {a : Act} {Q : Exit → Act → World → Prop} (hg : o.guard = none) (m x : Operand) (t : TypeId) (hop : o.op = Op.lookup t m x false)
    (k e : TypeId) (K : Keyed P k) (ht : P.underlying t = some (.map k e)) (he : P.underlying e = some (.int .i64)) (hz : (zeroValue e).run P w = .ok (.int .i64 0) w) (b n : Nat) (C : Lit → Nat)
    (hm : a.eval m = .map (some b)) (hown : CountMap P w k e b n C) (key : Value) (kl : Lit) (hx : a.eval x = key) (hkey : keyOf P k key = some kl)
    (hK : wpList P ops Q rest (a.put o.dst (.int .i64 (C kl))) w) :
    wpList P ops Q (o :: rest) a w := by
  obtain ⟨D, ho, _, hD⟩ := hown
  refine wpList_lookup_own_int w hg m x t hop k e .i64 K ht he hz b n D hm ho key kl hx hkey fun c hc _ => ?_
  rw [hD kl] at hc
  simp only [DataW.lit.injEq, Lit.int.injEq, true_and] at hc
  rw [← hc]
  exact hK
theorem wpList_countMore {ops : Array Oper} {rest : List Oper} {o : Oper} {a : Act} {Q : Exit → Act → World → Prop} (hg : o.guard = none) (m x v : Operand) (t : TypeId) (hop : o.op = Op.mapUpdate t m x v)
    (k e : TypeId) (K : Keyed P k) (ht : P.underlying t = some (.map k e)) (he : P.underlying e = some (.int .i64)) (b n : Nat) (C : Lit → Nat)
    (hm : a.eval m = .map (some b)) (hown : CountMap P w k e b n C) (hn : n < maxLen) (key : Value) (kl : Lit) (hx : a.eval x = key) (hv : a.eval v = .int .i64 ((C kl : Int) + 1)) (hsm : C kl < 1000000000) (hkey : keyOf P k key = some kl) (hk : WideAt.IsKeyLit kl)
    (hK : ∀ w', CountMap P w' k e b (n + 1) (oneMore C kl) → w.grownBy w' (some b) → wpList P ops Q rest (a.put o.dst undef) w') :
    wpList P ops Q (o :: rest) a w := by
  obtain ⟨D, ho, hh, hD⟩ := hown
  refine wpList_mapUpdate_own w hg m x v t hop k e K ht (plainElem P e) b n D hm ho hn key _ kl hx hv hkey (.lit (.int .i64 ((C kl : Int) + 1))) [] (plainElem_int he (WalkArith.wf_i64 (by omega))) fun w' h1 h2 => ?_
  refine hK w' ⟨_, h1, fun kl' => ?_, fun kl' => ?_⟩ h2
  · by_cases hkk : kl' = kl
    · subst hkk
      rw [Maps.has_put_same ho.isMap hk]
      simp [oneMore]
    · rw [Maps.has_put_other hkk, hh kl']
      simp [oneMore, hkk]
  · by_cases hkk : kl' = kl
    · subst hkk
      rw [atKey_put_same ho.isMap hk]
      simp [oneMore]
    · rw [atKey_put_other hkk, hD kl']
      simp [oneMore, hkk]
theorem wpList_countRange {ops : Array Oper} {rest : List Oper} {o : Oper} {a : Act} {Q : Exit → Act → World → Prop} (hg : o.guard = none) (m : Operand) (t : TypeId) (hop : o.op = Op.range t m) (k e : TypeId) (K : Keyed P k) (ht : P.underlying t = some (.map k e)) (b n : Nat) (C : Lit → Nat)
    (hm : a.eval m = .map (some b)) (hown : CountMap P w k e b n C)
    (hK : ∀ w' left cnt, (∀ kl, left kl = true ↔ 0 < C kl) → CountRange P w' k e b w.heap.size n C left cnt → w.grownBy w' none → wpList P ops Q rest (a.put o.dst (.pointer (some ⟨w.heap.size, 0, none⟩))) w') :
    wpList P ops Q (o :: rest) a w := by
  obtain ⟨D, ho, hh, hD⟩ := hown
  exact wpList_range_own w hg m t hop k e K ht (plainElem P e) b n D hm ho fun w' h1 h2 _ => hK w' _ _ hh ⟨D, h1, hD⟩ h2
theorem wpList_countNext {ops : Array Oper} {rest : List Oper} {o : Oper} {a : Act} {Q : Exit → Act → World → Prop} (hg : o.guard = none) (it : Operand) (hop : o.op = Op.next it false) (k e : TypeId) (K : Keyed P k) (hk : P.underlying k = some (.int .i64)) (he : P.underlying e = some (.int .i64))
    (b r n : Nat) (C : Lit → Nat) (left : Lit → Bool) (cnt : Nat) (hit : a.eval it = .pointer (some ⟨r, 0, none⟩)) (h : CountRange P w k e b r n C left cnt)
    (hDone : (∀ kl, left kl = false) → wpList P ops Q rest (a.put o.dst (.tuple #[.bool false])) w)
    (hMore : ∀ (x : Int) (w' : World) (cnt' : Nat), left (.int .i64 x) = true → CountRange P w' k e b r n C (fun z => left z && !z.sameKey (.int .i64 x)) cnt' → cnt' < cnt →
      w.grownBy w' (some r) → (Instr.entry (.pointer (some ⟨r, 0, none⟩))).run P w' = .ok (.tuple #[.int .i64 x, .int .i64 (C (.int .i64 x))]) w' → wpList P ops Q rest (a.put o.dst (.tuple #[.bool true, .int .i64 x, .int .i64 (C (.int .i64 x))])) w') :
    wpList P ops Q (o :: rest) a w := by
  obtain ⟨D, ho, hD⟩ := h
  refine wpList_next_ranges_ii w hg it hop k e .i64 .i64 K hk he b r n D left cnt hit ho (fun _ h => hDone h) fun x c w' cnt' _ _ hl hat hrg hlt hgr _ hen => ?_
  have hc : c = C (.int .i64 x) := by
    have := (hat (.lit (.int .i64 0))).symm.trans (hD _)
    simpa using this
  subst hc
  exact hMore x w' cnt' hl ⟨D, hrg, hD⟩ hlt hgr hen
theorem CountRange.left_eq (h : CountRange P w k e b r n C left cnt) : w.rangeLeft b r = cnt := by
  obtain ⟨D, ho, _⟩ := h
  exact ho.left_eq
end
def leftN (left : Lit → Bool) : Nat → Nat
  | 0 => 0
  | c + 1 => leftN left c + if left (.int .i64 (c : Int)) = true then 1 else 0
theorem leftN_congr {l l' : Lit → Bool} : ∀ c : Nat, (∀ j : Nat, j < c → l (.int .i64 (j : Int)) = l' (.int .i64 (j : Int))) → leftN l c = leftN l' c
  | 0, _ => rfl
  | c + 1, h => by
    unfold leftN
    rw [leftN_congr c fun j hj => h j (by omega), h c (by omega)]
theorem leftN_zero {l : Lit → Bool} (h : ∀ kl, l kl = false) : ∀ c, leftN l c = 0
  | 0 => rfl
  | c + 1 => by unfold leftN; rw [leftN_zero h c, h]; rfl
theorem same_int (x y : Int) : (Lit.int .i64 x).sameKey (.int .i64 y) = decide (x = y) := by
  have := WideAt.sameKey_iff (a := .int .i64 x) (b := .int .i64 y) trivial
  by_cases h : x = y
  · subst h; simpa using this
  · rw [decide_eq_false h]
    cases hs : (Lit.int .i64 x).sameKey (.int .i64 y)
    · rfl
    · have := this.1 hs
      simp at this
      exact absurd this h
theorem leftN_strike {l : Lit → Bool} {x : Nat} (hl : l (.int .i64 (x : Int)) = true) : ∀ c, x < c → leftN (fun z => l z && !z.sameKey (.int .i64 (x : Int))) c + 1 = leftN l c
  | 0, h => absurd h (by omega)
  | c + 1, h => by
    by_cases hx : x = c
    · subst hx
      have e1 : leftN (fun z => l z && !z.sameKey (.int .i64 (x : Int))) x = leftN l x := leftN_congr x fun j hj => by
        simp only [same_int]
        rw [decide_eq_false (by omega)]; simp
      unfold leftN
      rw [e1]
      simp [same_int, hl]
    · have := leftN_strike hl c (by omega)
      unfold leftN
      simp only [same_int]
      rw [decide_eq_false (by omega)]
      simp
      omega
end Go.Proofs.Ytmhkkdnopcdibaa
set_option linter.unusedVariables false
namespace Go.Proofs.Ytmhkkdnopcdibaa
open Go.RowKit Go.Maps

theorem kStr : Keyed Try.prog 9 := string_keyed Try.underlying9
theorem kInt : Keyed Try.prog 3 := int_keyed Try.underlying3
theorem zBool (w : World) : (zeroValue 4).run Try.prog w = .ok (.bool false) w := by kernel_rfl
def nameK (t : TeamD) : Lit := .string t.nm.data.toList
def seedK (t : TeamD) : Lit := .int .i64 t.seed
def keysUpto (f : TeamD → Lit) (g : Nat → TeamD) (k : Nat) (L : List Lit) : Prop := ∀ kl, kl ∈ L ↔ ∃ j, j < k ∧ kl = f (g j)
theorem keysUpto.next {f : TeamD → Lit} {g : Nat → TeamD} {k : Nat} {L : List Lit} (h : keysUpto f g k L) : keysUpto f g (k + 1) (f (g k) :: L) := by
  intro kl
  rw [List.mem_cons, h kl]
  constructor
  · rintro (rfl | ⟨j, hj, rfl⟩)
    · exact ⟨k, by omega, rfl⟩
    · exact ⟨j, by omega, rfl⟩
  · rintro ⟨j, hj, rfl⟩
    by_cases hjk : j = k
    · subst hjk; exact .inl rfl
    · exact .inr ⟨j, by omega, rfl⟩
theorem nameK_inj {a b : TeamD} (h : nameK a = nameK b) : a.nm = b.nm := by
  unfold nameK at h
  simp only [Lit.string.injEq] at h
  exact ByteArray.ext (Array.toList_inj.mp h)
theorem seedK_inj {a b : TeamD} (h : seedK a = seedK b) : a.seed = b.seed := by
  unfold seedK at h
  simpa using h
theorem fresh_of {g : Nat → TeamD} {k : Nat} {L1 L2 : List Lit} (h1 : keysUpto nameK g k L1) (h2 : keysUpto seedK g k L2) (ht : teamP (g k)) (hn : nameK (g k) ∉ L1) (hs : seedK (g k) ∉ L2) : freshP g k :=
  ⟨ht, fun j hj => ⟨fun e => hn ((h1 _).2 ⟨j, hj, by unfold nameK; rw [e]⟩), fun e => hs ((h2 _).2 ⟨j, hj, by unfold seedK; rw [e]⟩)⟩⟩
theorem stale_name {g : Nat → TeamD} {k : Nat} {L1 : List Lit} (h1 : keysUpto nameK g k L1) (hn : nameK (g k) ∈ L1) : ¬ freshP g k := by
  obtain ⟨j, hj, e⟩ := (h1 _).1 hn
  exact fun h => (h.2 j hj).1 (nameK_inj e).symm
theorem stale_seed {g : Nat → TeamD} {k : Nat} {L2 : List Lit} (h2 : keysUpto seedK g k L2) (hs : seedK (g k) ∈ L2) : ¬ freshP g k := by
  obtain ⟨j, hj, e⟩ := (h2 _).1 hs
  exact fun h => (h.2 j hj).2 (seedK_inj e).symm

theorem fieldOk_impl (v : Value) (n : Nat) (g : Nat → TeamD) (R : Bool) (w : World) (h : TeamRow w v n g) (hg : ∀ i, (g i).nm.size ≤ maxLen) (hR : R = true ↔ fieldP n g) :
    Calls Try.prog 45 #[v] w fun e w' => e = .returned (.bool R) ∧ Below w.heap.size w w' := by
  obtain ⟨a, cap, rfl, hn, hv⟩ := h.form'
  have HV := Lib.hid hv
  have HG := Lib.hid hg
  have HR := Lib.hid hR
  clear hv h hg hR
  have hmm := @run_makeMap Try.prog
  by_cases hlo : n < 2
  · have hf : R = false := by
      cases R with
      | false => rfl
      | true => exact absurd (HR.out.1 rfl).1 (by omega)
    subst hf
    have g1 : decide ((n : Int) < 2) = true := decide_eq_true (by omega)
    clear HR HV HG hlo
    go_enter Try.func45, Try.ntmps45
    go_wp2
    go_ret
    exact ⟨rfl, Below.refl _ _⟩
  have g1 : decide ((n : Int) < 2) = false := decide_eq_false (by omega)
  by_cases hhi : 8 < n
  · have hf : R = false := by
      cases R with
      | false => rfl
      | true => exact absurd (HR.out.1 rfl).1 (by omega)
    subst hf
    have g2 : decide ((8 : Int) < n) = true := decide_eq_true (by omega)
    clear HR HV HG hlo hhi
    go_enter Try.func45, Try.ntmps45
    go_wp2
    go_ret
    exact ⟨rfl, Below.refl _ _⟩
  have g2 : decide ((8 : Int) < n) = false := decide_eq_false (by omega)
  have hn8 : 2 ≤ n ∧ n ≤ 8 := by omega
  clear hlo hhi
  have HNO : Hid ((∃ k, k < n ∧ ¬ freshP g k) → R = false) := by
    rintro ⟨k, hk, hf⟩
    cases R with
    | false => rfl
    | true => exact absurd ((HR.out.1 rfl).2 k hk) hf
  have HYES : Hid ((∀ k, k < n → freshP g k) → R = true) := fun h => HR.out.2 ⟨hn8, h⟩
  clear HR
  have HK1 := Lib.hid kStr
  have HK2 := Lib.hid kInt
  have HZ := Lib.hid zBool
  go_enter Try.func45, Try.ntmps45
  go_wp2
  have m1 : BoolMap Try.prog (w.alloc (.map #[] 0)) 9 4 w.heap.size 0 [] := BoolMap.made w _ _ _
  have m2 : BoolMap Try.prog ((w.alloc (.map #[] 0)).alloc (.map #[] 0)) 3 4 (w.heap.size + 1) 0 [] := by
    have := BoolMap.made (w.alloc (.map #[] 0)) Try.prog 3 4
    simpa using this
  go_loopw [19] (fun i wr => ∃ (k : Nat) (L1 L2 : List Lit), k ≤ n ∧ i = .int .i64 k ∧ BoolMap Try.prog wr 9 4 w.heap.size k L1 ∧ BoolMap Try.prog wr 3 4 (w.heap.size + 1) k L2 ∧
      Hid (keysUpto nameK g k L1) ∧ Hid (keysUpto seedK g k L2) ∧ Hid (∀ j, j < k → freshP g j) ∧ Below w.heap.size w wr) (fun i _ => n - (RowKit.intOf i).toNat)
  case atStart =>
    exact ⟨0, [], [], Nat.zero_le _, rfl, m1.alloc _, m2, fun kl => by simp, fun kl => by simp, fun j hj => absurd hj (by omega),
      ((Below.refl _ _).alloc (Nat.le_refl _) _).alloc (by simp) _⟩
  case round =>
    clear m1 m2
    obtain ⟨k, L1, L2, hk, rfl, m1, m2, hL1, hL2, hfr, hb⟩ := hrel
    by_cases hlt : k < n
    · obtain ⟨b, off, rfl, hcap, hc⟩ := HV.out (by omega)
      obtain ⟨c0, c1, c2⟩ := cells_below hb (hc k hlt)
      have hgk := HG.out k
      have HBad : Hid (¬ freshP g k → R = false) := fun h => HNO.out ⟨k, hlt, h⟩
      have HStep : Hid (freshP g k → ∀ j, j < k + 1 → freshP g j) := fun h j hj => by
        by_cases hjk : j = k
        · subst hjk; exact h
        · exact hfr.out j (by omega)
      clear hc HV HG HNO hfr
      by_cases hx : ¬ teamP (g k)
      · have hf : R = false := HBad.out fun h => hx h.1
        subst hf
        have HX := Lib.hid hx
        clear hx HBad HStep HYES hL1 hL2
        generalize g k = x at *
        go_wp2_with (go_at_call 81; refine (teamOkI_no x _ hgk HX.out).mono ?_; rintro e w2 ⟨rfl, b2⟩; have hb2 : Below w.heap.size w w2 := (hb.alloc hb.size _).trans (b2.mono (Nat.le_trans hb.size (by simp))))
        go_ret
        exact ⟨rfl, hb2⟩
      replace hx := Classical.not_not.1 hx
      have HX := Lib.hid hx
      have hwf : (Lit.int .i64 (g k).seed).wf = true := WalkArith.wf_i64 (by have := hx.2.2; omega)
      have HK1 : Hid (keyOf Try.prog 9 (.string (g k).nm) = some (nameK (g k))) := WideMaps.keyOf_string_mk Try.underlying9 hgk
      have HK2 : Hid (keyOf Try.prog 3 (.int .i64 (g k).seed) = some (seedK (g k))) := keyOf_int_mk Try.underlying3 hwf
      have HF : Hid (nameK (g k) ∉ L1 → seedK (g k) ∉ L2 → freshP g k) := fun h1 h2 => fresh_of hL1.out hL2.out HX.out h1 h2
      have HN : Hid (nameK (g k) ∈ L1 → R = false) := fun h => HBad.out (stale_name hL1.out h)
      have HS : Hid (seedK (g k) ∈ L2 → R = false) := fun h => HBad.out (stale_seed hL2.out h)
      have hN1 := Lib.hid hL1.out.next
      have hN2 := Lib.hid hL2.out.next
      clear hx hwf HBad hL1 hL2
      have hl1 := m1.lt
      have hl2 := m2.lt
      have M1 : ∀ (o : Obj) (w2 : World), Below (wr.alloc o).heap.size (wr.alloc o) w2 → BoolMap Try.prog w2 9 4 w.heap.size k L1 := fun o w2 hb => (m1.alloc o).below hb (Nat.le_refl _)
      have M2 : ∀ (o : Obj) (w2 : World), Below (wr.alloc o).heap.size (wr.alloc o) w2 → BoolMap Try.prog w2 3 4 (w.heap.size + 1) k L2 := fun o w2 hb => (m2.alloc o).below hb (Nat.le_refl _)
      have M1 := Lib.hid M1
      have M2 := Lib.hid M2
      clear m1 m2
      by_cases hi1 : nameK (g k) ∈ L1
      · have hf : R = false := HN.out hi1
        subst hf
        have HI1 := Lib.hid hi1
        clear hi1 HN HS HF HStep HYES hN1 hN2 HK2
        generalize g k = x at *
        go_wp2_with (go_at_call 81; refine (teamOkI_yes x _ hgk HX.out).mono ?_; rintro e w2 ⟨rfl, b2⟩; obtain ⟨k0, k1, k2⟩ := var3 b2; have m1 := M1.out _ _ b2; have m2 := M2.out _ _ b2; have hb2 : Below w.heap.size w w2 := (hb.alloc hb.size _).trans (b2.mono (Nat.le_trans hb.size (by simp))); have hlB : wr.heap.size < w2.heap.size := World.block_lt_of_cell? _ _ k0; have r1 := (m1.run kStr Try.underlying122 Try.underlying4 (zBool _) HK1.out).1 HI1.out)
        go_ret
        exact ⟨rfl, hb2⟩
      have HI1 := Lib.hid hi1
      clear hi1 HN
      by_cases hi2 : seedK (g k) ∈ L2
      · have hf : R = false := HS.out hi2
        subst hf
        have HI2 := Lib.hid hi2
        clear hi2 HS HF HStep HYES hN1 hN2
        generalize g k = x at *
        go_wp2_with (go_at_call 81; refine (teamOkI_yes x _ hgk HX.out).mono ?_; rintro e w2 ⟨rfl, b2⟩; obtain ⟨k0, k1, k2⟩ := var3 b2; have m1 := M1.out _ _ b2; have m2 := M2.out _ _ b2; have hb2 : Below w.heap.size w w2 := (hb.alloc hb.size _).trans (b2.mono (Nat.le_trans hb.size (by simp))); have hlB : wr.heap.size < w2.heap.size := World.block_lt_of_cell? _ _ k0; have r1 := (m1.run kStr Try.underlying122 Try.underlying4 (zBool _) HK1.out).2 HI1.out; have r2 := (m2.run kInt Try.underlying123 Try.underlying4 (zBool _) HK2.out).1 HI2.out)
        go_ret
        exact ⟨rfl, hb2⟩
      have HI2 := Lib.hid hi2
      have HNext : Hid (∀ j, j < k + 1 → freshP g j) := HStep.out (HF.out HI1.out hi2)
      clear hi2 HS HF HStep
      generalize g k = x at *
      have kk1 : WideAt.IsKeyLit (nameK x) := trivial
      have kk2 : WideAt.IsKeyLit (seedK x) := trivial
      go_wp2_with (first
        | (go_at_call 81; refine (teamOkI_yes x _ hgk HX.out).mono ?_; rintro e w2 ⟨rfl, b2⟩; obtain ⟨k0, k1, k2⟩ := var3 b2; have m1 := M1.out _ _ b2; have m2 := M2.out _ _ b2; have hb2 : Below w.heap.size w w2 := (hb.alloc hb.size _).trans (b2.mono (Nat.le_trans hb.size (by simp))); have hlB : wr.heap.size < w2.heap.size := World.block_lt_of_cell? _ _ k0; have r1 := (m1.run kStr Try.underlying122 Try.underlying4 (zBool _) HK1.out).2 HI1.out; have r2 := (m2.run kInt Try.underlying123 Try.underlying4 (zBool _) HK2.out).2 HI2.out; have HM1 := Lib.hid m1; have HM2 := Lib.hid m2; clear m1 m2)
        | (at_mapUpdate; refine wpList_boolTrue rfl (.tmp 38) (.tmp 40) (.const (.bool true)) 122 rfl 9 4 kStr Try.underlying122 Try.underlying4 w.heap.size k L1 rfl HM1.out (by unfold maxLen; omega) _ (nameK x) rfl rfl HK1.out kk1 ?_; intro w3 m3 g3; have n2 : w3.cell? ⟨wr.heap.size, 2, none⟩ = some (.int .i64 x.seed) := g3.cell k2 (by simp; omega))
        | (at_mapUpdate; refine wpList_boolTrue rfl (.tmp 41) (.tmp 43) (.const (.bool true)) 123 rfl 3 4 kInt Try.underlying123 Try.underlying4 (w.heap.size + 1) k L2 rfl (HM2.out.grown g3 (by simp)) (by unfold maxLen; omega) _ (seedK x) rfl rfl HK2.out kk2 ?_; intro w4 m4 g4))
      go_roundw
      case rel =>
        exact ⟨k + 1, _, _, by omega, by go_num, m3.grown g4 (by simp), m4, hN1, hN2, HNext, (hb2.grown g3 hb2.size (fun q hq => by cases hq; exact Nat.le_refl _)).grown g4 (Nat.le_trans hb2.size g3.size) (fun q hq => by cases hq; omega)⟩
      case measure => simp [RowKit.intOf]; omega
    · obtain rfl : k = n := by omega
      have hf : R = true := HYES.out hfr.out
      subst hf
      clear HNO HYES hfr
      go_wp2
      go_ret
      exact ⟨rfl, hb⟩
end Go.Proofs.Ytmhkkdnopcdibaa
set_option linter.unusedVariables false
namespace Go.Proofs.Ytmhkkdnopcdibaa
open Go.RowKit Go.Maps

theorem fieldOkI_yes (v : Value) (n : Nat) (g : Nat → TeamD) (w : World) (h : TeamRow w v n g) (hg : ∀ i, (g i).nm.size ≤ maxLen) (hp : fieldP n g) :
    Calls Try.prog 45 #[v] w fun e w' => e = .returned (.bool true) ∧ Below w.heap.size w w' := fieldOk_impl v n g true w h hg ⟨fun _ => hp, fun _ => rfl⟩
theorem fieldOkI_no (v : Value) (n : Nat) (g : Nat → TeamD) (w : World) (h : TeamRow w v n g) (hg : ∀ i, (g i).nm.size ≤ maxLen) (hp : ¬ fieldP n g) :
    Calls Try.prog 45 #[v] w fun e w' => e = .returned (.bool false) ∧ Below w.heap.size w w' := fieldOk_impl v n g false w h hg ⟨fun h => absurd h (by simp), fun h => absurd h hp⟩
def clubK (t : TeamD) : Lit := .int .i64 t.club
theorem keyLitI {x : Int} : WideAt.IsKeyLit (.int .i64 x) := trivial
theorem zBoolV (w : World) : (zeroValue 4).run Try.prog w = .ok (.bool false) w := by kernel_rfl
theorem leftN_put {D : DataW Unit} {x : Nat} {z : DataW Unit} (ht : Tidy D) : ∀ c, x < c → (has D (.int .i64 (x : Int)) = false) → leftN (has (D.put (.int .i64 (x : Int)) z)) c = leftN (has D) c + 1 := by
  intro c hc hno
  have h1 : has (D.put (.int .i64 (x : Int)) z) (.int .i64 (x : Int)) = true := has_put_same ht.isMap keyLitI z
  rw [← leftN_strike h1 c hc]
  congr 1
  refine leftN_congr c fun j hj => ?_
  simp only [same_int]
  by_cases hjx : (j : Int) = x
  · rw [hjx, hno]; simp
  · rw [decide_eq_false hjx]
    rw [has_put_other (by intro e; simp only [Lit.int.injEq, true_and] at e; exact hjx e)]; simp
theorem leftN_has {D : DataW Unit} {x : Nat} {z : DataW Unit} (ht : Tidy D) (c : Nat) (hyes : has D (.int .i64 (x : Int)) = true) : leftN (has (D.put (.int .i64 (x : Int)) z)) c = leftN (has D) c := by
  refine leftN_congr c fun j hj => ?_
  by_cases hjx : (j : Int) = x
  · rw [hjx, hyes, has_put_same ht.isMap keyLitI z]
  · rw [has_put_other (by intro e; simp only [Lit.int.injEq, true_and] at e; exact hjx e)]
def clubSet (g : Nat → TeamD) (k : Nat) (D : DataW Unit) : Prop := (∀ kl, has D kl = true ↔ ∃ j, j < k ∧ kl = clubK (g j)) ∧ size D = leftN (has D) 6
theorem clubSet.next {g : Nat → TeamD} {k : Nat} {D : DataW Unit} {z : DataW Unit} (h : clubSet g k D) (ht : Tidy D) (hc : 0 ≤ (g k).club ∧ (g k).club < 6) : clubSet g (k + 1) (D.put (clubK (g k)) z) := by
  refine ⟨fun kl => ?_, ?_⟩
  · by_cases hk : kl = clubK (g k)
    · subst hk
      rw [show has (D.put (clubK (g k)) z) (clubK (g k)) = true from has_put_same ht.isMap (keyLitI (x := (g k).club)) z]
      exact ⟨fun _ => ⟨k, by omega, rfl⟩, fun _ => rfl⟩
    · rw [has_put_other hk, h.1 kl]
      constructor
      · rintro ⟨j, hj, e⟩; exact ⟨j, by omega, e⟩
      · rintro ⟨j, hj, e⟩
        by_cases hjk : j = k
        · subst hjk; exact absurd e hk
        · exact ⟨j, by omega, e⟩
  · obtain ⟨x, hx⟩ : ∃ x : Nat, (g k).club = x := ⟨(g k).club.toNat, by omega⟩
    have hkl : clubK (g k) = .int .i64 (x : Int) := by unfold clubK; rw [hx]
    rw [hkl, size_put ht]
    by_cases hh : has D (.int .i64 (x : Int)) = true
    · rw [if_pos hh, leftN_has ht 6 hh, h.2]
    · rw [if_neg hh, leftN_put ht 6 (by omega) (by simpa using hh), h.2]
theorem selL_pos {f : Nat → Int} {c : Int} : ∀ k, 0 < (selL f c k).length ↔ ∃ j, j < k ∧ f j = c
  | 0 => ⟨fun h => by simp [selL] at h, fun ⟨j, hj, _⟩ => absurd hj (by omega)⟩
  | k + 1 => by
    by_cases h : f k = c
    · rw [selL_yes h]
      exact ⟨fun _ => ⟨k, by omega, h⟩, fun _ => by simp⟩
    · rw [selL_no h, selL_pos k]
      constructor
      · rintro ⟨j, hj, e⟩; exact ⟨j, by omega, e⟩
      · rintro ⟨j, hj, e⟩
        by_cases hjk : j = k
        · subst hjk; exact absurd e h
        · exact ⟨j, by omega, e⟩
theorem clubSet.size {g : Nat → TeamD} {n : Nat} {D : DataW Unit} (h : clubSet g n D) : size D = clubsN g n 6 := by
  rw [h.2]
  have key : ∀ c, leftN (has D) c = clubsN g n c := by
    intro c
    induction c with
    | zero => rfl
    | succ c ih =>
      unfold leftN clubsN
      rw [ih]
      have hiff : has D (.int .i64 (c : Int)) = true ↔ 0 < (selL (fun i => (g i).club) (c : Int) n).length := by
        rw [h.1, selL_pos]
        constructor
        · rintro ⟨j, hj, e⟩
          unfold clubK at e
          simp only [Lit.int.injEq, true_and] at e
          exact ⟨j, hj, e.symm⟩
        · rintro ⟨j, hj, e⟩
          exact ⟨j, hj, by unfold clubK; rw [e]⟩
      by_cases hp : 0 < (selL (fun i => (g i).club) (c : Int) n).length
      · rw [if_pos (hiff.2 hp), if_pos hp]
      · rw [if_neg (fun e => hp (hiff.1 e)), if_neg hp]
  exact key 6
end Go.Proofs.Ytmhkkdnopcdibaa
set_option linter.unusedVariables false
namespace Go.Proofs.Ytmhkkdnopcdibaa
open Go.RowKit

def EnteredD (f : Nat) : Prop := ∀ (args : Array Value) (w : World), Sem.run Try.prog (callFunc f args) w = .ok (.enter f args) w
theorem getD_at {T : List (List Int)} {k : Nat} {r : List Int} (h : T[k]? = some r) : T.getD k [] = r := by rw [List.getD_eq_getElem?_getD, h]; rfl
set_option maxRecDepth 100000 in
set_option maxHeartbeats 2000000 in
theorem indexRowsB (f : Nat) (hf : EnteredD f) (pv : Value) (v : Value) (T : List (List Int)) (p : List Int → Bool) (w : World) (h : RdA tIntSS w [v] T)
    (hp : ∀ (r : List Int) (x : Option Addr) (k : Nat) (wa : World), Below w.heap.size w wa → IntRow wa (.slice x r.length k) r.length (getI r) → Calls Try.prog f #[pv, .slice x r.length k] wa fun e w'' => e = .returned (.bool (p r)) ∧ Below wa.heap.size wa w'') :
    Calls Try.prog 82 #[v, .func (.func f) #[pv] #[]] w fun e w' => e = .returned (.int .i64 (firstI (fun i => p (T.getD i [])) T.length 0)) ∧ Below w.heap.size w w' := by
  obtain ⟨pa, pc, rfl, hpn⟩ := pots_form h
  obtain ⟨np, hnp⟩ : ∃ np, List.length (α := List Int) T = np := ⟨_, rfl⟩
  have HNP := Lib.hid hnp
  have HP := Lib.hid hp
  have HVR := Lib.hid h
  rw [hnp] at hpn HVR
  have hnp2 : T.length = np := hnp
  rw [hnp2]
  clear h hp hnp hnp2
  generalize hr : firstI (fun i => p (T.getD i [])) np 0 = R
  have HR := Lib.hid hr
  clear hr
  go_enter Try.func82, Try.ntmps82
  go_wp2
  go_loopw [8] (fun i wr => ∃ k : Nat, k ≤ np ∧ i = .int .i64 k ∧ Hid (firstI (fun i => p (T.getD i [])) (np - k) k = R) ∧ Below w.heap.size w wr) (fun i _ => np - (RowKit.intOf i).toNat)
  case atStart => exact ⟨0, Nat.zero_le _, rfl, HR.out, Below.refl _ _⟩
  case round =>
    obtain ⟨k, hk, rfl, hpf, hb⟩ := hrel
    by_cases hlt : k < np
    · obtain ⟨r, hr⟩ : ∃ r : List Int, T[k]? = some r := ⟨_, List.getElem?_eq_getElem (by rw [HNP.out]; exact hlt)⟩
      obtain ⟨b, off, x, xc, rfl, hcap, q0, hrr, hm63⟩ := pot_cells (by rw [HNP.out]; exact HVR.out.below hb) hr
      rw [HNP.out] at hcap
      have hj1 : (k : Int) < (np : Int) := by omega
      have hstep := firstI_step (p := fun i => p (T.getD i [])) hlt
      rw [hpf.out] at hstep
      simp only [getD_at hr] at hstep
      have HY := Lib.hid (fun (e : p r = true) => hstep.trans (if_pos e))
      have HN := Lib.hid (fun (e : p r = false) => hstep.trans (if_neg (by rw [e]; simp)))
      clear hstep
      have hsz := hb.size
      have C2 := Lib.hid (HP.out r x xc wr hb hrr)
      clear HVR hpf HR HP hrr hr
      obtain ⟨m, hm⟩ : ∃ m, r.length = m := ⟨_, rfl⟩
      rw [hm] at q0 C2
      clear hm hm63
      have hrun := hf #[pv, .slice x m xc] wr
      generalize p r = y at *
      cases y with
      | true =>
        obtain rfl := HY.out rfl
        clear HY HN
        go_wp2_with fail
        refine C2.out.mono ?_
        rintro e w2 ⟨rfl, b2⟩
        have HE := Lib.hid (hb.trans (b2.mono hsz))
        clear C2 b2
        go_wp2
        go_ret
        exact ⟨rfl, HE.out⟩
      | false =>
        have HS := Lib.hid (HN.out rfl).symm
        clear HY HN
        go_wp2_with fail
        refine C2.out.mono ?_
        rintro e w2 ⟨rfl, b2⟩
        have HE := Lib.hid (hb.trans (b2.mono hsz))
        clear C2 b2
        go_wp2
        go_roundw
        case rel => exact ⟨k + 1, by omega, by go_num, HS.out, HE.out⟩
        case measure => simp [RowKit.intOf]; omega
    · obtain rfl : k = np := by omega
      have hR : R = -1 := by rw [← hpf.out, Nat.sub_self]; rfl
      subst hR
      clear hpf HR
      go_wp2
      go_ret
      exact ⟨rfl, hb⟩
set_option maxRecDepth 100000 in
set_option maxHeartbeats 2000000 in
theorem anyRowsB (f : Nat) (hf : EnteredD f) (pv : Value) (v : Value) (T : List (List Int)) (p : List Int → Bool) (R : Bool) (w : World) (hR : R = true ↔ ∃ j, j < T.length ∧ p (T.getD j []) = true) (h : RdA tIntSS w [v] T)
    (hp : ∀ (r : List Int) (x : Option Addr) (k : Nat) (wa : World), Below w.heap.size w wa → IntRow wa (.slice x r.length k) r.length (getI r) → Calls Try.prog f #[pv, .slice x r.length k] wa fun e w'' => e = .returned (.bool (p r)) ∧ Below wa.heap.size wa w'') :
    Calls Try.prog 46 #[v, .func (.func f) #[pv] #[]] w fun e w' => e = .returned (.bool R) ∧ Below w.heap.size w w' := by
  have H := Lib.hid (indexRowsB f hf pv v T p w h hp)
  have hq : R = decide (0 ≤ firstI (fun i => p (T.getD i [])) T.length 0) := by
    rw [Bool.eq_iff_iff, hR, decide_eq_true_eq, firstI_pos]
    exact ⟨fun ⟨j, h1, h2⟩ => ⟨j, by omega, by omega, h2⟩, fun ⟨j, _, h1, h2⟩ => ⟨j, by omega, h2⟩⟩
  generalize firstI (fun i => p (T.getD i [])) T.length 0 = q at *
  subst hq
  obtain ⟨pa, pc, rfl, hpn⟩ := pots_form h
  generalize List.length (α := List Int) T = np at *
  clear h hR hp
  go_enter Try.func46, Try.ntmps46
  go_wp2_with (go_at_call 82; refine H.out.mono ?_; rintro e w' ⟨rfl, b1⟩)
  go_ret
  exact ⟨rfl, b1⟩
set_option maxRecDepth 100000 in
set_option maxHeartbeats 2000000 in
theorem indexRowsC (f : Nat) (hf : EnteredD f) (P : Option Addr) (v : Value) (T : List (List Int)) (p : List Int → Bool) (w : World) (h : RdA tIntSS w [v] T)
    (hp : ∀ (r : List Int) (x : Option Addr) (k : Nat) (wa : World), Below w.heap.size w wa → IntRow wa (.slice x r.length k) r.length (getI r) → Calls Try.prog f #[.slice x r.length k, .pointer P] wa fun e w'' => e = .returned (.bool (p r)) ∧ Below wa.heap.size wa w'') :
    Calls Try.prog 82 #[v, .func (.func f) #[] #[.pointer P]] w fun e w' => e = .returned (.int .i64 (firstI (fun i => p (T.getD i [])) T.length 0)) ∧ Below w.heap.size w w' := by
  obtain ⟨pa, pc, rfl, hpn⟩ := pots_form h
  obtain ⟨np, hnp⟩ : ∃ np, List.length (α := List Int) T = np := ⟨_, rfl⟩
  have HNP := Lib.hid hnp
  have HP := Lib.hid hp
  have HVR := Lib.hid h
  rw [hnp] at hpn HVR
  have hnp2 : T.length = np := hnp
  rw [hnp2]
  clear h hp hnp hnp2
  generalize hr : firstI (fun i => p (T.getD i [])) np 0 = R
  have HR := Lib.hid hr
  clear hr
  go_enter Try.func82, Try.ntmps82
  go_wp2
  go_loopw [8] (fun i wr => ∃ k : Nat, k ≤ np ∧ i = .int .i64 k ∧ Hid (firstI (fun i => p (T.getD i [])) (np - k) k = R) ∧ Below w.heap.size w wr) (fun i _ => np - (RowKit.intOf i).toNat)
  case atStart => exact ⟨0, Nat.zero_le _, rfl, HR.out, Below.refl _ _⟩
  case round =>
    obtain ⟨k, hk, rfl, hpf, hb⟩ := hrel
    by_cases hlt : k < np
    · obtain ⟨r, hr⟩ : ∃ r : List Int, T[k]? = some r := ⟨_, List.getElem?_eq_getElem (by rw [HNP.out]; exact hlt)⟩
      obtain ⟨b, off, x, xc, rfl, hcap, q0, hrr, hm63⟩ := pot_cells (by rw [HNP.out]; exact HVR.out.below hb) hr
      rw [HNP.out] at hcap
      have hj1 : (k : Int) < (np : Int) := by omega
      have hstep := firstI_step (p := fun i => p (T.getD i [])) hlt
      rw [hpf.out] at hstep
      simp only [getD_at hr] at hstep
      have HY := Lib.hid (fun (e : p r = true) => hstep.trans (if_pos e))
      have HN := Lib.hid (fun (e : p r = false) => hstep.trans (if_neg (by rw [e]; simp)))
      clear hstep
      have hsz := hb.size
      have C2 := Lib.hid (HP.out r x xc wr hb hrr)
      clear HVR hpf HR HP hrr hr
      obtain ⟨m, hm⟩ : ∃ m, r.length = m := ⟨_, rfl⟩
      rw [hm] at q0 C2
      clear hm hm63
      have hrun := hf #[.slice x m xc, .pointer P] wr
      generalize p r = y at *
      cases y with
      | true =>
        obtain rfl := HY.out rfl
        clear HY HN
        go_wp2_with fail
        refine C2.out.mono ?_
        rintro e w2 ⟨rfl, b2⟩
        have HE := Lib.hid (hb.trans (b2.mono hsz))
        clear C2 b2
        go_wp2
        go_ret
        exact ⟨rfl, HE.out⟩
      | false =>
        have HS := Lib.hid (HN.out rfl).symm
        clear HY HN
        go_wp2_with fail
        refine C2.out.mono ?_
        rintro e w2 ⟨rfl, b2⟩
        have HE := Lib.hid (hb.trans (b2.mono hsz))
        clear C2 b2
        go_wp2
        go_roundw
        case rel => exact ⟨k + 1, by omega, by go_num, HS.out, HE.out⟩
        case measure => simp [RowKit.intOf]; omega
    · obtain rfl : k = np := by omega
      have hR : R = -1 := by rw [← hpf.out, Nat.sub_self]; rfl
      subst hR
      clear hpf HR
      go_wp2
      go_ret
      exact ⟨rfl, hb⟩
set_option maxRecDepth 100000 in
set_option maxHeartbeats 2000000 in
theorem anyRowsC (f : Nat) (hf : EnteredD f) (P : Option Addr) (v : Value) (T : List (List Int)) (p : List Int → Bool) (R : Bool) (w : World) (hR : R = true ↔ ∃ j, j < T.length ∧ p (T.getD j []) = true) (h : RdA tIntSS w [v] T)
    (hp : ∀ (r : List Int) (x : Option Addr) (k : Nat) (wa : World), Below w.heap.size w wa → IntRow wa (.slice x r.length k) r.length (getI r) → Calls Try.prog f #[.slice x r.length k, .pointer P] wa fun e w'' => e = .returned (.bool (p r)) ∧ Below wa.heap.size wa w'') :
    Calls Try.prog 46 #[v, .func (.func f) #[] #[.pointer P]] w fun e w' => e = .returned (.bool R) ∧ Below w.heap.size w w' := by
  have H := Lib.hid (indexRowsC f hf P v T p w h hp)
  have hq : R = decide (0 ≤ firstI (fun i => p (T.getD i [])) T.length 0) := by
    rw [Bool.eq_iff_iff, hR, decide_eq_true_eq, firstI_pos]
    exact ⟨fun ⟨j, h1, h2⟩ => ⟨j, by omega, by omega, h2⟩, fun ⟨j, _, h1, h2⟩ => ⟨j, by omega, h2⟩⟩
  generalize firstI (fun i => p (T.getD i [])) T.length 0 = q at *
  subst hq
  obtain ⟨pa, pc, rfl, hpn⟩ := pots_form h
  generalize List.length (α := List Int) T = np at *
  clear h hR hp
  go_enter Try.func46, Try.ntmps46
  go_wp2_with (go_at_call 82; refine H.out.mono ?_; rintro e w' ⟨rfl, b1⟩)
  go_ret
  exact ⟨rfl, b1⟩
def noPotB (gr : Int) (n : Nat) : Bool := decide (n = 0) || decide (gr < (n : Int))
set_option maxRecDepth 100000 in
set_option maxHeartbeats 2000000 in
theorem isNoPot_impl (pa : Option Addr) (np pc : Nat) (gr most : Int) (x : Option Addr) (n k : Nat) (w : World) (hn : n ≤ 9223372036854775807) :
    Calls Try.prog 47 #[.agg #[.slice pa np pc, .int .i64 gr, .int .i64 most], .slice x n k] w fun e w' => e = .returned (.bool (noPotB gr n)) ∧ Below w.heap.size w w' := by
  unfold noPotB
  have HB : Hid (Below w.heap.size w (w.alloc (.cells #[.slice pa np pc, .int .i64 gr, .int .i64 most] 26))) := (Below.refl _ _).alloc (Nat.le_refl _) _
  obtain ⟨r, hr⟩ : ∃ r, decide (gr < (n : Int)) = r := ⟨_, rfl⟩
  by_cases h0 : n = 0
  · have g0 : ((n : Int) == 0) = true := by simp [h0]
    have e : (decide (n = 0) || decide (gr < (n : Int))) = true := by simp [h0]
    rw [e]
    clear e h0 hr
    go_enter Try.func47, Try.ntmps47
    go_wp2
    go_ret
    exact ⟨rfl, HB.out⟩
  · have g0 : ((n : Int) == 0) = false := by simp [h0]
    have e : (decide (n = 0) || decide (gr < (n : Int))) = r := by rw [hr]; simp [h0]
    rw [e]
    clear e h0
    go_enter Try.func47, Try.ntmps47
    go_wp2
    go_ret
    exact ⟨rfl, HB.out⟩
end Go.Proofs.Ytmhkkdnopcdibaa
set_option linter.unusedVariables false
namespace Go.Proofs.Ytmhkkdnopcdibaa
open Go.RowKit Go.Shelf

theorem growInts (n : Nat) (w : World) (hn : n ≤ 1048576) : Calls Try.prog 84 #[.slice none 0 0, .int .i64 n] w (IntsL w []) := by
  obtain ⟨i0, hi, hz0, hz1, hz2⟩ := info_parts Try.infoI
  by_cases h0 : n = 0
  · have h := Any8.slices_Grow_room Try.growL none 0 0 n w (by omega) (by omega) (by omega) (by omega)
    change Calls Try.prog 84 _ _ _ at h
    refine h.mono ?_
    rintro e w' ⟨rfl, rfl⟩
    exact ⟨_, rfl, World.ownsRow_nil _ _ _ _, Below.refl _ _⟩
  · have h := Any8.slices_Grow_grow Try.growL i0 (.int .i64 0) hi hz0 (by rw [hz1]; decide) none 0 0 n [] w (by omega) (by omega) (by rw [hz2]; omega) (by omega) (by simp) (fun _ => rfl) (fun a ha => by cases ha)
    change Calls Try.prog 84 _ _ _ at h
    refine h.mono ?_
    rintro e w' ⟨rfl, rfl⟩
    refine ⟨_, rfl, ⟨rfl, .inr ⟨w.heap.size, _, _, rfl, Nat.le_refl _, heap_alloc_new w.drew _, Nat.zero_le _, grownCap_le_maxLen _ _ _ _ (by unfold maxLen; omega), ?_, by simp⟩⟩, ?_⟩
    · have h9 := grownCap_ge w (0 + n) 0 3
      change (#[] ++ Builtin.zeroCells #[Value.int .i64 0] (0 + n - 0) ++ Builtin.zeroCells #[Value.int .i64 0] (grownCap w (0 + n) 0 3 - (0 + n))).size = grownCap w (0 + n) 0 3 * 1
      rw [Array.size_append, Array.size_append, size_zeroCells, size_zeroCells]
      simp only [List.size_toArray, List.length_cons, List.length_nil]
      omega
    · exact (Below.refl w.heap.size w).drew.alloc (Nat.le_refl _) _
theorem lenSum_take {T : List (List Int)} {k : Nat} {r : List Int} (h : T[k]? = some r) : ((T.take (k + 1)).flatten).length = ((T.take k).flatten).length + r.length := by
  rw [List.take_add_one, h, List.flatten_append, List.length_append]; simp
set_option maxRecDepth 100000 in
set_option maxHeartbeats 4000000 in
theorem concatInts (v : Value) (T : List (List Int)) (w : World) (h : RdA tIntSS w [v] T) (hw : tIntSS.wt T ≤ 1048576) :
    Calls Try.prog 49 #[v] w (IntsL w T.flatten) := by
  obtain ⟨i0, hi, hz0, hz1, hz2⟩ := info_parts Try.infoI
  obtain ⟨pa, pc, rfl, hpn⟩ := pots_form h
  have hfl := Nat.le_trans (flat_wt (T := T)) hw
  obtain ⟨np, hnp⟩ : ∃ np, List.length (α := List Int) T = np := ⟨_, rfl⟩
  have HNP := Lib.hid hnp
  have HFL : Hid (∀ k, ((T.take k).flatten).length ≤ 1048576) := fun k => Nat.le_trans (flat_takeD k) hfl
  have HS := Lib.hid h
  rw [hnp] at hpn HS ⊢
  clear h hw hnp hfl
  go_enter Try.func49, Try.ntmps49
  go_wp2
  go_loop [3, 11] (fun sv iv => ∃ (k s : Nat), k ≤ np ∧ iv = .int .i64 k ∧ sv = .int .i64 s ∧ Hid (s = ((T.take k).flatten).length)) (fun _ iv => np - (RowKit.intOf iv).toNat)
  case atStart => exact ⟨0, 0, Nat.zero_le _, rfl, rfl, rfl⟩
  case round =>
    obtain ⟨k, s, hk9, rfl, rfl, HV⟩ := hrel
    have hs9 := HFL.out k
    rw [← HV.out] at hs9
    by_cases hlt : k < np
    · obtain ⟨r, hr⟩ : ∃ r : List Int, T[k]? = some r := ⟨_, List.getElem?_eq_getElem (by rw [HNP.out]; exact hlt)⟩
      obtain ⟨b, off, x, xc, rfl, hcap, q0, hrr, hm63⟩ := pot_cells (by rw [HNP.out]; exact HS.out) hr
      rw [HNP.out] at hcap
      have hj1 : (k : Int) < (np : Int) := by omega
      have hl9 := HFL.out (k + 1)
      have HVN := Lib.hid (lenSum_take hr)
      rw [HVN.out, ← HV.out] at hl9
      rw [← HV.out] at HVN
      clear hrr hr HV
      obtain ⟨m, hm⟩ : ∃ m, r.length = m := ⟨_, rfl⟩
      rw [hm] at q0 hm63 hl9 HVN
      clear hm
      go_wp2
      go_round
      case rel => exact ⟨k + 1, s + m, by omega, by go_num, by go_num, HVN.out.symm⟩
      case measure => simp [RowKit.intOf]; omega
    obtain rfl : k = np := by omega
    have HG := Lib.hid (growInts s w (by omega))
    go_wp2_with fail
    refine HG.out.mono ?_
    rintro e w1 h9
    obtain ⟨gv, rfl, og, bg⟩ := h9
    have HB0 := Lib.hid bg
    have ON := Lib.hid og
    clear og bg HG HV hs9
    go_wp2
    go_loopw [6, 27] (fun ov iv wr => ∃ (j : Nat) (out : List Int), j ≤ k ∧ iv = .int .i64 j ∧ Hid (out = (T.take j).flatten) ∧ out.length ≤ 1048576 ∧ Hid (wr.ownsRow w.heap.size 3 1 ov out.length (out.map (Value.int .i64))) ∧ Hid (Below w.heap.size w wr)) (fun _ iv _ => k - (RowKit.intOf iv).toNat)
    case atStart => exact ⟨0, [], Nat.zero_le _, rfl, rfl, Nat.zero_le _, ON, HB0⟩
    case round =>
      clear ON HB0
      obtain ⟨j, out, hj9, rfl, HV, hl6, HO, HBr⟩ := hrel
      obtain ⟨oa, oc, hof⟩ := owns_form HO.out
      subst hof
      by_cases hlt : j < k
      · have HSr := Lib.hid (HS.out.below HBr.out)
        obtain ⟨r, hr⟩ : ∃ r : List Int, T[j]? = some r := ⟨_, List.getElem?_eq_getElem (by rw [HNP.out]; exact hlt)⟩
        obtain ⟨b, off, x, xc, rfl, hcap, q0, hrr, hm63⟩ := pot_cells (by rw [HNP.out]; exact HSr.out) hr
        rw [HNP.out] at hcap
        have hj1 : (j : Int) < (k : Int) := by omega
        have HVN : Hid (out ++ r = (T.take (j + 1)).flatten) := by show _ = _; rw [HV.out, List.take_add_one, hr, List.flatten_append]; simp
        have hl9 : out.length + r.length ≤ 1048576 := by have h9 := HFL.out (j + 1); rw [← HVN.out, List.length_append] at h9; exact h9
        have HRC := Lib.hid hrr.rec
        have hsz : w.heap.size ≤ wr.heap.size := HBr.out.size
        have HFI : Hid (flatR (fun i => [Value.int .i64 (getI r i)]) r.length = r.map (Value.int .i64)) := flat_intsD r
        clear hrr hr HV
        obtain ⟨m, hm⟩ : ∃ m, r.length = m := ⟨_, rfl⟩
        have HM := Lib.hid hm
        rw [hm] at q0 hm63 hl9 HRC HFI
        clear hm
        go_wp2_with (at_builtin; refine wpList_appendR rfl (.tmp 31) (.tmp 32) 31 rfl w.heap.size 3 Try.underlying31 hi hz0 hz1 hz2 rfl (by decide) rfl HO.out rfl HRC.out (fun i hi => rfl) (fun i hi u hu => by simp at hu; subst hu; rfl) hl9 (by omega) hsz ?_; intro vv w5 o5 g5 at5; have O5 := Lib.hid o5; have G5 := Lib.hid g5; clear o5 g5 at5)
        have HBN : Hid (Below w.heap.size w w5) := HBr.out.grown G5.out HBr.out.size (fun q hq => (HO.out.lt q hq).1)
        have HON : Hid (w5.ownsRow w.heap.size 3 1 vv (out ++ r).length ((out ++ r).map (Value.int .i64))) := by
          have h9 := O5.out
          rw [HFI.out] at h9
          rw [List.length_append, HM.out, List.map_append]
          exact h9
        have hln : (out ++ r).length ≤ 1048576 := by rw [List.length_append, HM.out]; exact hl9
        clear O5 G5
        go_roundw
        case rel => exact ⟨j + 1, out ++ r, by omega, by go_num, HVN, hln, HON, HBN⟩
        case measure => simp [RowKit.intOf]; omega
      obtain rfl : j = k := by omega
      have HE : Hid (out = T.flatten) := by show _ = _; rw [HV.out, List.take_of_length_le (by have := HNP.out; omega)]
      go_wp2
      go_ret
      rw [← HE.out]
      exact ⟨_, rfl, HO.out, HBr.out⟩
end Go.Proofs.Ytmhkkdnopcdibaa
set_option linter.unusedVariables false
namespace Go.Proofs.Ytmhkkdnopcdibaa
open Go.RowKit

def dropV (k : Nat) : Value → Value
  | .slice a n c => .slice (if c = k then a else a.map fun x => x.add k) (n - k) (c - k)
  | v => v
theorem dropV_slice (k : Nat) (a : Option Addr) (n c : Nat) : dropV k (.slice a n c) = .slice (if c = k then a else a.map fun x => x.add k) (n - k) (c - k) := rfl
theorem dropV_row {w : World} {v : Value} {n k : Nat} {g : Nat → Int} (h : IntRow w v n g) (hk : k ≤ n) : IntRow w (dropV k v) (n - k) (fun i => g (k + i)) := by
  by_cases e : n = k
  · subst e
    obtain ⟨a, c, rfl, _, _⟩ := h.form
    exact .inl ⟨_, _, by rw [dropV_slice, Nat.sub_self], Nat.sub_self _⟩
  rcases h with ⟨a, c, rfl, h0⟩ | ⟨b, off, c, rfl, h0, hn, hc, hcap⟩
  · omega
  · refine .inr ⟨b, off + k, c - k, ?_, by omega, by omega, fun i hi => ?_, by omega⟩
    · rw [dropV_slice, if_neg (by omega)]; simp [Addr.add]
    · rw [Nat.add_assoc]; exact hc (k + i) (by omega)
theorem grpL_stop (T L : List Int) (g : Int) {a : Nat} (h : L.length ≤ a) : ∀ n, grpL T L g (a + n) = grpL T L g a
  | 0 => rfl
  | n + 1 => by rw [← Nat.add_assoc, grpL_succ, if_neg (fun h2 => by omega), grpL_stop T L g h n]
theorem flat_get {T : List (List Int)} {k i : Nat} {r : List Int} (hr : T[k]? = some r) (hi : i < r.length) : getI T.flatten (((T.take k).flatten).length + i) = getI r i := by
  have h : T.flatten = (T.take k).flatten ++ (r ++ (T.drop (k + 1)).flatten) := by
    obtain ⟨hl, he⟩ := List.getElem?_eq_some_iff.1 hr
    have e1 : T.drop k = r :: T.drop (k + 1) := by rw [List.drop_eq_getElem_cons hl, he]
    have e2 : T.flatten = (T.take k).flatten ++ (T.drop k).flatten := by rw [← List.flatten_append, List.take_append_drop]
    rw [e2, e1, List.flatten_cons]
  unfold getI
  rw [h, List.getD_eq_getElem?_getD, List.getElem?_append_right (by omega), Nat.add_sub_cancel_left, List.getElem?_append_left hi, ← List.getD_eq_getElem?_getD]
set_option maxRecDepth 100000 in
set_option maxHeartbeats 8000000 in
theorem groupOf_impl (vp : Value) (gr most : Int) (T : List (List Int)) (vd : Value) (L : List Int) (g : Int) (w : World) (h : RdA tIntSS w [vp] T) (hw : tIntSS.wt T ≤ 1048576) (hd : IntRow w vd L.length (getI L)) :
    Calls Try.prog 20 #[.agg #[vp, .int .i64 gr, .int .i64 most], vd, .int .i64 g] w (IntsL w (grpL T.flatten L g T.flatten.length)) := by
  obtain ⟨i0, hi, hz0, hz1, hz2⟩ := info_parts Try.infoI
  obtain ⟨pa, pc, rfl, hpn⟩ := pots_form h
  obtain ⟨da, dc, rfl, hdn, _⟩ := hd.form
  have hfl := Nat.le_trans (flat_wt (T := T)) hw
  obtain ⟨np, hnp⟩ : ∃ np, List.length (α := List Int) T = np := ⟨_, rfl⟩
  have HNP := Lib.hid hnp
  obtain ⟨m, hm⟩ : ∃ m, L.length = m := ⟨_, rfl⟩
  have HM := Lib.hid hm
  have HFL : Hid (∀ k, ((T.take k).flatten).length ≤ 1048576) := fun k => Nat.le_trans (flat_takeD k) hfl
  obtain ⟨U, hU⟩ : ∃ U, w.alloc (.cells #[.slice pa (List.length (α := List Int) T) pc, .int .i64 gr, .int .i64 most] 26) = U := ⟨_, rfl⟩
  have bU : Below w.heap.size w U := by rw [← hU]; exact (Below.refl _ _).alloc (Nat.le_refl _) _
  have HS : Hid (PotsAt U w.heap.size pa (List.length (α := List Int) T) pc gr most T) := by rw [← hU]; exact PotsAt.made h
  have HB := Lib.hid bU
  have HD : Hid (IntRow U (.slice da m dc) m (fun i => getI L (0 + i))) := by
    have h9 := hd.below bU (Nat.le_refl _)
    rw [hm] at h9
    exact h9.congr fun i _ => by rw [Nat.zero_add]
  rw [hm] at hdn ⊢
  rw [hnp] at hpn hU HS ⊢
  clear h hd bU hw hm hnp hfl
  have c0 := HS.out.1.2 0 _ rfl
  generalize hFL : T.flatten = FL at *
  have HFG : Hid (∀ (k i : Nat) (r : List Int), T[k]? = some r → i < r.length → getI FL (((T.take k).flatten).length + i) = getI r i) := fun k i r h1 h2 => by rw [← hFL]; exact flat_get h1 h2
  have HFE : Hid (((T.take np).flatten).length = FL.length) := by show _ = _; rw [← hFL, List.take_of_length_le (by rw [HNP.out]; exact Nat.le_refl _)]
  clear hFL
  go_enter Try.func20, Try.ntmps20
  go_wp2
  clear hU c0
  go_loopw [1, 7, 16] (fun dv ov iv wr => ∃ (k s m2 : Nat) (xa : Option Addr) (xc : Nat) (out : List Int), k ≤ np ∧ iv = .int .i64 k ∧ dv = .slice xa m2 xc ∧ m2 ≤ 9223372036854775807 ∧ Hid (s = ((T.take k).flatten).length) ∧ Hid (m2 = m - s) ∧ Hid (out = grpL FL L g s) ∧ out.length ≤ s ∧ s ≤ 1048576 ∧ Hid (IntRow U (.slice xa m2 xc) m2 (fun i => getI L (s + i))) ∧ Hid (wr.ownsRow U.heap.size 3 1 ov out.length (out.map (Value.int .i64))) ∧ Hid (Below U.heap.size U wr)) (fun _ _ iv _ => np - (RowKit.intOf iv).toNat)
  case atStart => exact ⟨0, 0, m, da, dc, [], Nat.zero_le _, rfl, rfl, hdn, rfl, rfl, rfl, Nat.le_refl _, by omega, HD, World.ownsRow_nil _ _ _ _, Below.refl _ _⟩
  case round =>
    clear HD
    obtain ⟨k, s, m2, xa, xc, out, hk9, rfl, rfl, hm63, HV, HM2, HOL, hl6, hs6, HD, HO, HBr⟩ := hrel
    obtain ⟨oa, oc, hof⟩ := owns_form HO.out
    subst hof
    by_cases hlt : k < np
    · have HSr := Lib.hid (HS.out.below HBr.out)
      obtain ⟨r, hr⟩ : ∃ r : List Int, T[k]? = some r := ⟨_, List.getElem?_eq_getElem (by rw [HNP.out]; exact hlt)⟩
      obtain ⟨b, off, x, rc, rfl, hcap, q9, hrr, hr63⟩ := pot_cells (by rw [HNP.out]; exact HS.out.2) hr
      have q0 := (HBr.out.cell (p := ⟨b, off + k, none⟩) (World.block_lt_of_cell? U _ q9)).trans q9
      rw [HNP.out] at hcap
      have hj1 : (k : Int) < (np : Int) := by omega
      have hl9 := HFL.out (k + 1)
      have HVN := Lib.hid (lenSum_take hr)
      rw [HVN.out, ← HV.out] at hl9
      rw [← HV.out] at HVN
      have HFR : Hid (∀ i, i < r.length → getI FL (s + i) = getI r i) := fun i hi => by rw [HV.out]; exact HFG.out k i r hr hi
      have HRR := Lib.hid hrr
      have hrc : r.length ≤ rc ∨ r.length = 0 := by
        rcases hrr with ⟨_, _, _, h0⟩ | ⟨_, _, _, h1, _, _, _, h2⟩
        · exact .inr h0
        · simp only [Value.slice.injEq] at h1; exact .inl (by omega)
      clear hrr hr HV q9
      obtain ⟨rl, hrl⟩ : ∃ rl, r.length = rl := ⟨_, rfl⟩
      rw [hrl] at q0 hr63 hl9 HVN HFR HRR hrc
      clear hrl
      have hmc : m2 ≤ xc ∨ m2 = 0 := by
        rcases HD.out with ⟨_, _, _, h0⟩ | ⟨_, _, _, h1, _, _, _, h2⟩
        · exact .inr h0
        · simp only [Value.slice.injEq] at h1; exact .inl (by omega)
      have c0 := HSr.out.1.2 0 _ rfl
      have hszr : U.heap.size ≤ wr.heap.size := HBr.out.size
      clear HSr
      go_upto_region 5 with fail
      go_cut [10] (fun s10 wx => ∃ n : Nat, s10 = .int .i64 n ∧ n ≤ rl ∧ n ≤ m2 ∧ Hid (n = rl ∨ n = m2) ∧ wx = wr)
      case first =>
        have hmin : min (rl : Int) (m2 : Int) = ((min rl m2 : Nat) : Int) := by omega
        go_wp2_with fail
        go_meet
        case rel => exact ⟨min rl m2, rfl, Nat.min_le_left _ _, Nat.min_le_right _ _, (by rcases Nat.le_total rl m2 with h | h; exact .inl (Nat.min_eq_left h); exact .inr (Nat.min_eq_right h)), rfl⟩
      case rest =>
        obtain ⟨n, rfl, hn1, hn2, HN3, rfl⟩ := hcut
        have hnc : n ≤ rc := by omega
        have hmx : m2 ≤ xc := by omega
        have hn63 : (n : Int) ≤ 9223372036854775807 := by omega
        generalize wc = wo at *
        go_wp2
        clear c0 q0
        go_loopw [7, 29] (fun ov iv wr => ∃ (i : Nat) (out2 : List Int), i ≤ n ∧ iv = .int .i64 i ∧ Hid (out2 = grpL FL L g (s + i)) ∧ out2.length ≤ s + i ∧ Hid (wr.ownsRow U.heap.size 3 1 ov out2.length (out2.map (Value.int .i64))) ∧ Hid (Below U.heap.size U wr)) (fun _ iv _ => n - (RowKit.intOf iv).toNat)
        case atStart => exact ⟨0, out, Nat.zero_le _, rfl, HOL, hl6, HO, HBr⟩
        case round =>
          clear HO HBr HOL hl6 hszr
          obtain ⟨i, out2, hi9, rfl, HV2, hl7, HO2, HBr2⟩ := hrel
          obtain ⟨oa2, oc2, hof2⟩ := owns_form HO2.out
          subst hof2
          by_cases hlt2 : i < n
          · have HRr := Lib.hid (HRR.out.below HBr2.out (Nat.le_refl _))
            have HDr := Lib.hid (HD.out.below HBr2.out (Nat.le_refl _))
            obtain ⟨b1, off1, rfl, hcap1, q1⟩ := int_at HRr.out (show i < rl by omega)
            obtain ⟨b2, off2, rfl, hcap2, q2⟩ := int_at HDr.out (show i < m2 by omega)
            have hj2 : (i : Int) < (n : Int) := by omega
            have hj3 : (i : Int) < (m2 : Int) := by omega
            have HVN2 := Lib.hid (grpL_succ FL L g (s + i))
            have hsl : s + i < m := by have := HM2.out; omega
            rw [HM.out, HFR.out i (by omega)] at HVN2
            clear HRr HDr
            generalize getI r i = xv at *
            generalize getI L (s + i) = y at *
            by_cases hy : y = g
            · have g2 : (y == g) = true := by simp [hy]
              have HVx : Hid (out2 ++ [xv] = grpL FL L g (s + (i + 1))) := by show _ = _; rw [← Nat.add_assoc, HVN2.out, if_pos ⟨hsl, hy⟩, ← HV2.out]
              have hszr := HBr2.out.size
              have HO3 := HO2
              clear HVN2 hy HV2
              go_wp2_with (at_builtin; refine wpList_pushL rfl (.tmp 40) (.tmp 42) 31 rfl U.heap.size 3 Try.underlying31 hi hz0 hz1 hz2 rfl (by decide) [.int .i64 xv] rfl (by intro u hu; simp at hu; subst hu; rfl) rfl (by show Value.slice (some ⟨_, 0, none⟩) 1 1 = _; simp) HO3.out (by unfold maxLen; omega) (by omega) hszr ?_; intro gg5 cc5 w5 o5 g5 at5 lt5; have O5 := Lib.hid o5; have HB5 := Lib.hid (HBr2.out.grown g5 hszr (fun q hq => (HO3.out.lt q hq).1)); clear o5 g5 at5 lt5)
              go_roundw
              case rel => exact ⟨i + 1, out2 ++ [xv], by omega, by go_num, HVx, by rw [List.length_append, List.length_singleton]; omega, by rw [List.length_append, List.map_append]; exact O5, HB5⟩
              case measure => simp [RowKit.intOf]; omega
            · have g2 : (y == g) = false := by simp [hy]
              have HVx : Hid (out2 = grpL FL L g (s + (i + 1))) := by show _ = _; rw [← Nat.add_assoc, HVN2.out, if_neg (fun h => hy h.2), ← HV2.out]
              clear HVN2 hy HV2
              go_wp2
              go_roundw
              case rel => exact ⟨i + 1, out2, by omega, by go_num, HVx, by omega, HO2, HBr2⟩
              case measure => simp [RowKit.intOf]; omega
          obtain rfl : i = n := by omega
          have HOLn : Hid (out2 = grpL FL L g (s + rl)) := by
            show _ = _
            rw [HV2.out]
            rcases HN3.out with h | h
            · rw [h]
            · have h2 := HM2.out
              have h3 := grpL_stop FL L g (a := s + i) (by rw [HM.out]; omega) (rl - i)
              rw [← h3]
              congr 1
              omega
          have HDn : Hid (IntRow U (dropV i (.slice xa m2 xc)) (m2 - i) (fun j => getI L (s + rl + j))) := (dropV_row HD.out hn2).congr fun j hj => by
            rcases HN3.out with h | h
            · rw [h]; congr 1; omega
            · omega
          have HM2n : Hid (m2 - i = m - (s + rl)) := by
            have h2 := HM2.out
            rcases HN3.out with h | h <;> (show _ = _; omega)
          have hlo : out2.length ≤ s + rl := by omega
          clear HV2 HN3 HFR HM2 HRR hl7 hn1
          rw [dropV_slice] at HDn
          by_cases e : xc = i
          · subst e
            rw [if_pos rfl] at HDn
            go_wp2
            go_roundw
            case rel => exact ⟨k + 1, s + rl, m2 - xc, xa, _, out2, by omega, by go_num, (by rw [show m2 - xc = 0 by omega, Nat.sub_self]), by omega, HVN.out.symm, HM2n, HOLn, hlo, hl9, HDn, HO2, HBr2⟩
            case measure => simp [RowKit.intOf]; omega
          · rw [if_neg e] at HDn
            go_wp2
            go_roundw
            case rel => exact ⟨k + 1, s + rl, m2 - i, _, _, out2, by omega, by go_num, rfl, by omega, HVN.out.symm, HM2n, HOLn, hlo, hl9, HDn, HO2, HBr2⟩
            case measure => simp [RowKit.intOf]; omega
    obtain rfl : k = np := by omega
    have HE : Hid (out = grpL FL L g FL.length) := by show _ = _; rw [HOL.out, HV.out, HFE.out]
    go_wp2
    go_ret
    rw [← HE.out]
    exact ⟨_, rfl, owns_mono HO.out HB.out.size, HB.out.trans (HBr.out.mono HB.out.size)⟩
end Go.Proofs.Ytmhkkdnopcdibaa
