/-
  Packed: FieldImpl, Maps, FieldMap, ListsImpl.
-/
import Derived.Maps.OwnOps
import Derived.Maps.OwnSet
import Derived.Maps.Views
import Derived.Maps.RangeWalk
import Derived.Test.YtmhkkdnopcdibaaQ1
import Derived.Test.YtmhkkdnopcdibaaQ10
import Derived.Test.YtmhkkdnopcdibaaQ11
set_option linter.unusedVariables false
namespace Go.Proofs.Ytmhkkdnopcdibaa
open Go.RowKit

theorem teamOkI_yes (t : TeamD) (w : World) (hs : t.nm.size ≤ maxLen) (hp : teamP t) :
    Calls Try.prog 81 #[.agg #[.string t.nm, .int .i64 t.club, .int .i64 t.seed]] w fun e w' => e = .returned (.bool true) ∧ Below w.heap.size w w' := by
  obtain ⟨nm, club, seed⟩ := t
  obtain ⟨h1, h2, h3⟩ := hp
  simp only at h1 h2 h3 hs ⊢
  have H1 := Lib.hid h1
  have g1 : decide ((0 : Int) ≤ club) = true := decide_eq_true (by omega)
  have g2 : decide (club < 6) = true := decide_eq_true (by omega)
  have g3 : decide ((1 : Int) ≤ seed) = true := decide_eq_true (by omega)
  have g4 : decide (seed ≤ 8) = true := decide_eq_true (by omega)
  clear h1 h2 h3
  go_enter Try.func81, Try.ntmps81
  go_wp2_with (go_at_call 94; refine (isName_impl _ _ hs).mono ?_; rintro e w' ⟨rfl, bi⟩; obtain ⟨k0, k1, k2⟩ := var3 bi; rw [H1.out])
  go_ret
  exact ⟨rfl, ((Below.refl _ _).alloc (Nat.le_refl _) _).trans (bi.mono (by simp))⟩
theorem teamOkI_no (t : TeamD) (w : World) (hs : t.nm.size ≤ maxLen) (hp : ¬ teamP t) :
    Calls Try.prog 81 #[.agg #[.string t.nm, .int .i64 t.club, .int .i64 t.seed]] w fun e w' => e = .returned (.bool false) ∧ Below w.heap.size w w' := by
  obtain ⟨nm, club, seed⟩ := t
  unfold teamP at hp
  simp only at hp hs ⊢
  by_cases h1 : nameB nm = true
  · have H1 := Lib.hid h1
    have hp : ¬ ((0 ≤ club ∧ club ≤ 5) ∧ 1 ≤ seed ∧ seed ≤ 8) := fun h => hp ⟨h1, h⟩
    clear h1
    by_cases h2 : 0 ≤ club
    · have g1 : decide ((0 : Int) ≤ club) = true := decide_eq_true h2
      by_cases h3 : club < 6
      · have g2 : decide (club < 6) = true := decide_eq_true h3
        by_cases h4 : 1 ≤ seed
        · have g3 : decide ((1 : Int) ≤ seed) = true := decide_eq_true h4
          have g4 : decide (seed ≤ 8) = false := decide_eq_false (by omega)
          clear h2 h3 h4 hp
          go_enter Try.func81, Try.ntmps81
          go_wp2_with (go_at_call 94; refine (isName_impl _ _ hs).mono ?_; rintro e w' ⟨rfl, bi⟩; obtain ⟨k0, k1, k2⟩ := var3 bi; rw [H1.out])
          go_ret
          exact ⟨rfl, ((Below.refl _ _).alloc (Nat.le_refl _) _).trans (bi.mono (by simp))⟩
        · have g3 : decide ((1 : Int) ≤ seed) = false := decide_eq_false h4
          clear h2 h3 h4 hp
          go_enter Try.func81, Try.ntmps81
          go_wp2_with (go_at_call 94; refine (isName_impl _ _ hs).mono ?_; rintro e w' ⟨rfl, bi⟩; obtain ⟨k0, k1, k2⟩ := var3 bi; rw [H1.out])
          go_ret
          exact ⟨rfl, ((Below.refl _ _).alloc (Nat.le_refl _) _).trans (bi.mono (by simp))⟩
      · have g2 : decide (club < 6) = false := decide_eq_false h3
        clear h2 h3 hp
        go_enter Try.func81, Try.ntmps81
        go_wp2_with (go_at_call 94; refine (isName_impl _ _ hs).mono ?_; rintro e w' ⟨rfl, bi⟩; obtain ⟨k0, k1, k2⟩ := var3 bi; rw [H1.out])
        go_ret
        exact ⟨rfl, ((Below.refl _ _).alloc (Nat.le_refl _) _).trans (bi.mono (by simp))⟩
    · have g1 : decide ((0 : Int) ≤ club) = false := decide_eq_false h2
      clear h2 hp
      go_enter Try.func81, Try.ntmps81
      go_wp2_with (go_at_call 94; refine (isName_impl _ _ hs).mono ?_; rintro e w' ⟨rfl, bi⟩; obtain ⟨k0, k1, k2⟩ := var3 bi; rw [H1.out])
      go_ret
      exact ⟨rfl, ((Below.refl _ _).alloc (Nat.le_refl _) _).trans (bi.mono (by simp))⟩
  · have h1' : nameB nm = false := by simpa using h1
    have H1 := Lib.hid h1'
    clear h1 h1' hp
    go_enter Try.func81, Try.ntmps81
    go_wp2_with (go_at_call 94; refine (isName_impl _ _ hs).mono ?_; rintro e w' ⟨rfl, bi⟩; obtain ⟨k0, k1, k2⟩ := var3 bi; rw [H1.out])
    go_ret
    exact ⟨rfl, ((Below.refl _ _).alloc (Nat.le_refl _) _).trans (bi.mono (by simp))⟩
end Go.Proofs.Ytmhkkdnopcdibaa
set_option linter.unusedVariables false
namespace Go.Proofs.Ytmhkkdnopcdibaa
open Go.RowKit Go.Maps

theorem plainElem_bool_inv {H : Type} {P : Program} {e : TypeId} (he : P.underlying e = some .bool) {v : Value} {z : DataW H × List MemPlace} (h : plainElem P e v = some z) : ∃ x, v = .bool x ∧ z = (.lit (.bool x), []) := by
  unfold plainElem at h
  rw [he] at h
  cases v <;> simp at h
  exact ⟨_, rfl, h.symm⟩

def BoolMap (P : Program) (w : World) (k e : TypeId) (b n : Nat) (L : List Lit) : Prop :=
  ∃ D : DataW Unit, w.ownsMap P k (plainElem P e) b n D ∧ ∀ kl, (kl ∈ L → D.atKey kl (.lit (.bool false)) = .lit (.bool true)) ∧ (kl ∉ L → D.atKey kl (.lit (.bool false)) = .lit (.bool false))
section
variable {P : Program} {w w' : World} {k e t : TypeId} {b n : Nat} {L : List Lit}
theorem BoolMap.made (w : World) (P : Program) (k e : TypeId) : BoolMap P (w.alloc (.map #[] 0)) k e w.heap.size 0 [] :=
  ⟨.map [], World.ownsMap_made w P k _, fun kl => ⟨fun h => by simp at h, fun _ => rfl⟩⟩
theorem BoolMap.grown {row : Option Nat} (h : BoolMap P w k e b n L) (hg : w.grownBy w' row) (hne : some b ≠ row) : BoolMap P w' k e b n L := by
  obtain ⟨D, ho, hD⟩ := h
  exact ⟨D, ho.kept hg hne, hD⟩
theorem BoolMap.below {B : Nat} (h : BoolMap P w k e b n L) (hb : Below B w w') (hB : w.heap.size ≤ B) : BoolMap P w' k e b n L := h.grown (below_grown hb hB) (by simp)
theorem BoolMap.alloc (h : BoolMap P w k e b n L) (o : Obj) : BoolMap P (w.alloc o) k e b n L := h.grown (World.grownBy_alloc w o none) (by simp)
theorem BoolMap.lt (h : BoolMap P w k e b n L) : b < w.heap.size := by
  obtain ⟨D, ho, _⟩ := h
  exact ho.lt
theorem BoolMap.run {key : Value} {kl : Lit} (h : BoolMap P w k e b n L) (K : Keyed P k) (ht : P.underlying t = some (.map k e)) (he : P.underlying e = some .bool) (hz : (zeroValue e).run P w = .ok (.bool false) w) (hkey : keyOf P k key = some kl) :
    (kl ∈ L → (Instr.lookup t (.map (some b)) key false).run P w = .ok (.bool true) w) ∧ (kl ∉ L → (Instr.lookup t (.map (some b)) key false).run P w = .ok (.bool false) w) := by
  obtain ⟨D, ho, hD⟩ := h
  obtain ⟨v, ps, hrun, hv⟩ := ho.lookup K ht hz (plainElem_bool he false) hkey
  obtain ⟨x, rfl, hx⟩ := plainElem_bool_inv he hv
  simp only [Prod.mk.injEq] at hx
  refine ⟨fun h => ?_, fun h => ?_⟩
  · have := (hD kl).1 h
    rw [hx.1] at this
    simp only [DataW.lit.injEq, Lit.bool.injEq] at this
    rw [hrun, this]
  · have := (hD kl).2 h
    rw [hx.1] at this
    simp only [DataW.lit.injEq, Lit.bool.injEq] at this
    rw [hrun, this]
theorem wpList_boolTrue {ops : Array Oper} {rest : List Oper} {o : Oper} {a : Act} {Q : Exit → Act → World → Prop} (hg : o.guard = none) (m x v : Operand) (t : TypeId) (hop : o.op = Op.mapUpdate t m x v)
    (k e : TypeId) (K : Keyed P k) (ht : P.underlying t = some (.map k e)) (he : P.underlying e = some .bool) (b n : Nat) (L : List Lit)
    (hm : a.eval m = .map (some b)) (hown : BoolMap P w k e b n L) (hn : n < maxLen) (key : Value) (kl : Lit) (hx : a.eval x = key) (hv : a.eval v = .bool true) (hkey : keyOf P k key = some kl) (hk : WideAt.IsKeyLit kl)
    (hK : ∀ w', BoolMap P w' k e b (n + 1) (kl :: L) → w.grownBy w' (some b) → wpList P ops Q rest (a.put o.dst undef) w') :
    wpList P ops Q (o :: rest) a w := by
  obtain ⟨D, ho, hD⟩ := hown
  refine wpList_mapUpdate_own w hg m x v t hop k e K ht (plainElem P e) b n D hm ho hn key (.bool true) kl hx hv hkey (.lit (.bool true)) [] (plainElem_bool he true) fun w' h1 h2 => ?_
  refine hK w' ⟨_, h1, fun kl' => ?_⟩ h2
  by_cases hkk : kl' = kl
  · subst hkk
    exact ⟨fun _ => atKey_put_same ho.isMap hk _ _, fun h => absurd (List.mem_cons_self ..) h⟩
  · rw [atKey_put_other hkk]
    refine ⟨fun h => (hD kl').1 ?_, fun h => (hD kl').2 ?_⟩
    · rcases List.mem_cons.1 h with h | h
      · exact absurd h hkk
      · exact h
    · exact fun h' => h (List.mem_cons_of_mem _ h')
end

def CountMap (P : Program) (w : World) (k e : TypeId) (b n : Nat) (C : Lit → Nat) : Prop :=
  ∃ D : DataW Unit, w.ownsMap P k (plainElem P e) b n D ∧ (∀ kl, Maps.has D kl = true ↔ 0 < C kl) ∧ ∀ kl, D.atKey kl (.lit (.int .i64 0)) = .lit (.int .i64 (C kl))
open Classical in
noncomputable def oneMore (C : Lit → Nat) (kl : Lit) : Lit → Nat := fun z => C z + if z = kl then 1 else 0
def CountRange (P : Program) (w : World) (k e : TypeId) (b r n : Nat) (C : Lit → Nat) (left : Lit → Bool) (cnt : Nat) : Prop :=
  ∃ D : DataW Unit, w.ranges P k (plainElem P e) b r n D left cnt ∧ ∀ kl, D.atKey kl (.lit (.int .i64 0)) = .lit (.int .i64 (C kl))
section
variable {P : Program} {w w' : World} {k e t : TypeId} {b n r cnt : Nat} {C : Lit → Nat} {left : Lit → Bool}
theorem CountMap.made (w : World) (P : Program) (k e : TypeId) : CountMap P (w.alloc (.map #[] 0)) k e w.heap.size 0 (fun _ => 0) :=
  ⟨.map [], World.ownsMap_made w P k _, fun kl => ⟨fun h => by simp [Maps.has_eq] at h, fun h => by simp at h⟩, fun kl => rfl⟩
theorem CountMap.grown {row : Option Nat} (h : CountMap P w k e b n C) (hg : w.grownBy w' row) (hne : some b ≠ row) : CountMap P w' k e b n C := by
  obtain ⟨D, ho, hD⟩ := h
  exact ⟨D, ho.kept hg hne, hD⟩
theorem CountMap.below {B : Nat} (h : CountMap P w k e b n C) (hb : Below B w w') (hB : w.heap.size ≤ B) : CountMap P w' k e b n C := h.grown (below_grown hb hB) (by simp)
theorem CountMap.alloc (h : CountMap P w k e b n C) (o : Obj) : CountMap P (w.alloc o) k e b n C := h.grown (World.grownBy_alloc w o none) (by simp)
theorem CountMap.lt (h : CountMap P w k e b n C) : b < w.heap.size := by
  obtain ⟨D, ho, _⟩ := h
  exact ho.lt
theorem wpList_countLook {ops : Array Oper} {rest : List Oper} {o : Oper} {a : Act} {Q : Exit → Act → World → Prop} (hg : o.guard = none) (m x : Operand) (t : TypeId) (hop : o.op = Op.lookup t m x false)
    (k e : TypeId) (K : Keyed P k) (ht : P.underlying t = some (.map k e)) (he : P.underlying e = some (.int .i64)) (hz : (zeroValue e).run P w = .ok (.int .i64 0) w) (b n : Nat) (C : Lit → Nat)
    (hm : a.eval m = .map (some b)) (hown : CountMap P w k e b n C) (key : Value) (kl : Lit) (hx : a.eval x = key) (hkey : keyOf P k key = some kl)
    (hK : wpList P ops Q rest (a.put o.dst (.int .i64 (C kl))) w) :
    wpList P ops Q (o :: rest) a w := by
  obtain ⟨D, ho, _, hD⟩ := hown
  refine wpList_lookup_own_int w hg m x t hop k e .i64 K ht he hz b n D hm ho key kl hx hkey fun c hc _ => ?_
  rw [hD kl] at hc
  simp only [DataW.lit.injEq, Lit.int.injEq, true_and] at hc
  rw [← hc]
  exact hK
theorem wpList_countMore {ops : Array Oper} {rest : List Oper} {o : Oper} {a : Act} {Q : Exit → Act → World → Prop} (hg : o.guard = none) (m x v : Operand) (t : TypeId) (hop : o.op = Op.mapUpdate t m x v)
    (k e : TypeId) (K : Keyed P k) (ht : P.underlying t = some (.map k e)) (he : P.underlying e = some (.int .i64)) (b n : Nat) (C : Lit → Nat)
    (hm : a.eval m = .map (some b)) (hown : CountMap P w k e b n C) (hn : n < maxLen) (key : Value) (kl : Lit) (hx : a.eval x = key) (hv : a.eval v = .int .i64 ((C kl : Int) + 1)) (hsm : C kl < 1000000000) (hkey : keyOf P k key = some kl) (hk : WideAt.IsKeyLit kl)
    (hK : ∀ w', CountMap P w' k e b (n + 1) (oneMore C kl) → w.grownBy w' (some b) → wpList P ops Q rest (a.put o.dst undef) w') :
    wpList P ops Q (o :: rest) a w := by
  obtain ⟨D, ho, hh, hD⟩ := hown
  refine wpList_mapUpdate_own w hg m x v t hop k e K ht (plainElem P e) b n D hm ho hn key _ kl hx hv hkey (.lit (.int .i64 ((C kl : Int) + 1))) [] (plainElem_int he (WalkArith.wf_i64 (by omega))) fun w' h1 h2 => ?_
  refine hK w' ⟨_, h1, fun kl' => ?_, fun kl' => ?_⟩ h2
  · by_cases hkk : kl' = kl
    · subst hkk
      rw [Maps.has_put_same ho.isMap hk]
      simp [oneMore]
    · rw [Maps.has_put_other hkk, hh kl']
      simp [oneMore, hkk]
  · by_cases hkk : kl' = kl
    · subst hkk
      rw [atKey_put_same ho.isMap hk]
      simp [oneMore]
    · rw [atKey_put_other hkk, hD kl']
      simp [oneMore, hkk]
theorem wpList_countRange {ops : Array Oper} {rest : List Oper} {o : Oper} {a : Act} {Q : Exit → Act → World → Prop} (hg : o.guard = none) (m : Operand) (t : TypeId) (hop : o.op = Op.range t m) (k e : TypeId) (K : Keyed P k) (ht : P.underlying t = some (.map k e)) (b n : Nat) (C : Lit → Nat)
    (hm : a.eval m = .map (some b)) (hown : CountMap P w k e b n C)
    (hK : ∀ w' left cnt, (∀ kl, left kl = true ↔ 0 < C kl) → CountRange P w' k e b w.heap.size n C left cnt → w.grownBy w' none → wpList P ops Q rest (a.put o.dst (.pointer (some ⟨w.heap.size, 0, none⟩))) w') :
    wpList P ops Q (o :: rest) a w := by
  obtain ⟨D, ho, hh, hD⟩ := hown
  exact wpList_range_own w hg m t hop k e K ht (plainElem P e) b n D hm ho fun w' h1 h2 _ => hK w' _ _ hh ⟨D, h1, hD⟩ h2
theorem wpList_countNext {ops : Array Oper} {rest : List Oper} {o : Oper} {a : Act} {Q : Exit → Act → World → Prop} (hg : o.guard = none) (it : Operand) (hop : o.op = Op.next it false) (k e : TypeId) (K : Keyed P k) (hk : P.underlying k = some (.int .i64)) (he : P.underlying e = some (.int .i64))
    (b r n : Nat) (C : Lit → Nat) (left : Lit → Bool) (cnt : Nat) (hit : a.eval it = .pointer (some ⟨r, 0, none⟩)) (h : CountRange P w k e b r n C left cnt)
    (hDone : (∀ kl, left kl = false) → wpList P ops Q rest (a.put o.dst (.tuple #[.bool false])) w)
    (hMore : ∀ (x : Int) (w' : World) (cnt' : Nat), left (.int .i64 x) = true → CountRange P w' k e b r n C (fun z => left z && !z.sameKey (.int .i64 x)) cnt' → cnt' < cnt →
      w.grownBy w' (some r) → (Instr.entry (.pointer (some ⟨r, 0, none⟩))).run P w' = .ok (.tuple #[.int .i64 x, .int .i64 (C (.int .i64 x))]) w' → wpList P ops Q rest (a.put o.dst (.tuple #[.bool true, .int .i64 x, .int .i64 (C (.int .i64 x))])) w') :
    wpList P ops Q (o :: rest) a w := by
  obtain ⟨D, ho, hD⟩ := h
  refine wpList_next_ranges_ii w hg it hop k e .i64 .i64 K hk he b r n D left cnt hit ho (fun _ h => hDone h) fun x c w' cnt' _ _ hl hat hrg hlt hgr _ hen => ?_
  have hc : c = C (.int .i64 x) := by
    have := (hat (.lit (.int .i64 0))).symm.trans (hD _)
    simpa using this
  subst hc
  exact hMore x w' cnt' hl ⟨D, hrg, hD⟩ hlt hgr hen
theorem CountRange.left_eq (h : CountRange P w k e b r n C left cnt) : w.rangeLeft b r = cnt := by
  obtain ⟨D, ho, _⟩ := h
  exact ho.left_eq
end
def leftN (left : Lit → Bool) : Nat → Nat
  | 0 => 0
  | c + 1 => leftN left c + if left (.int .i64 (c : Int)) = true then 1 else 0
theorem leftN_congr {l l' : Lit → Bool} : ∀ c : Nat, (∀ j : Nat, j < c → l (.int .i64 (j : Int)) = l' (.int .i64 (j : Int))) → leftN l c = leftN l' c
  | 0, _ => rfl
  | c + 1, h => by
    unfold leftN
    rw [leftN_congr c fun j hj => h j (by omega), h c (by omega)]
theorem leftN_zero {l : Lit → Bool} (h : ∀ kl, l kl = false) : ∀ c, leftN l c = 0
  | 0 => rfl
  | c + 1 => by unfold leftN; rw [leftN_zero h c, h]; rfl
theorem same_int (x y : Int) : (Lit.int .i64 x).sameKey (.int .i64 y) = decide (x = y) := by
  have := WideAt.sameKey_iff (a := .int .i64 x) (b := .int .i64 y) trivial
  by_cases h : x = y
  · subst h; simpa using this
  · rw [decide_eq_false h]
    cases hs : (Lit.int .i64 x).sameKey (.int .i64 y)
    · rfl
    · have := this.1 hs
      simp at this
      exact absurd this h
theorem leftN_strike {l : Lit → Bool} {x : Nat} (hl : l (.int .i64 (x : Int)) = true) : ∀ c, x < c → leftN (fun z => l z && !z.sameKey (.int .i64 (x : Int))) c + 1 = leftN l c
  | 0, h => absurd h (by omega)
  | c + 1, h => by
    by_cases hx : x = c
    · subst hx
      have e1 : leftN (fun z => l z && !z.sameKey (.int .i64 (x : Int))) x = leftN l x := leftN_congr x fun j hj => by
        simp only [same_int]
        rw [decide_eq_false (by omega)]; simp
      unfold leftN
      rw [e1]
      simp [same_int, hl]
    · have := leftN_strike hl c (by omega)
      unfold leftN
      simp only [same_int]
      rw [decide_eq_false (by omega)]
      simp
      omega
end Go.Proofs.Ytmhkkdnopcdibaa
set_option linter.unusedVariables false
namespace Go.Proofs.Ytmhkkdnopcdibaa
open Go.RowKit Go.Maps

theorem kStr : Keyed Try.prog 9 := string_keyed Try.underlying9
theorem kInt : Keyed Try.prog 3 := int_keyed Try.underlying3
theorem zBool (w : World) : (zeroValue 4).run Try.prog w = .ok (.bool false) w := by kernel_rfl
def nameK (t : TeamD) : Lit := .string t.nm.data.toList
def seedK (t : TeamD) : Lit := .int .i64 t.seed
def keysUpto (f : TeamD → Lit) (g : Nat → TeamD) (k : Nat) (L : List Lit) : Prop := ∀ kl, kl ∈ L ↔ ∃ j, j < k ∧ kl = f (g j)
theorem keysUpto.next {f : TeamD → Lit} {g : Nat → TeamD} {k : Nat} {L : List Lit} (h : keysUpto f g k L) : keysUpto f g (k + 1) (f (g k) :: L) := by
  intro kl
  rw [List.mem_cons, h kl]
  constructor
  · rintro (rfl | ⟨j, hj, rfl⟩)
    · exact ⟨k, by omega, rfl⟩
    · exact ⟨j, by omega, rfl⟩
  · rintro ⟨j, hj, rfl⟩
    by_cases hjk : j = k
    · subst hjk; exact .inl rfl
    · exact .inr ⟨j, by omega, rfl⟩
theorem nameK_inj {a b : TeamD} (h : nameK a = nameK b) : a.nm = b.nm := by
  unfold nameK at h
  simp only [Lit.string.injEq] at h
  exact ByteArray.ext (Array.toList_inj.mp h)
theorem seedK_inj {a b : TeamD} (h : seedK a = seedK b) : a.seed = b.seed := by
  unfold seedK at h
  simpa using h
theorem fresh_of {g : Nat → TeamD} {k : Nat} {L1 L2 : List Lit} (h1 : keysUpto nameK g k L1) (h2 : keysUpto seedK g k L2) (ht : teamP (g k)) (hn : nameK (g k) ∉ L1) (hs : seedK (g k) ∉ L2) : freshP g k :=
  ⟨ht, fun j hj => ⟨fun e => hn ((h1 _).2 ⟨j, hj, by unfold nameK; rw [e]⟩), fun e => hs ((h2 _).2 ⟨j, hj, by unfold seedK; rw [e]⟩)⟩⟩
theorem stale_name {g : Nat → TeamD} {k : Nat} {L1 : List Lit} (h1 : keysUpto nameK g k L1) (hn : nameK (g k) ∈ L1) : ¬ freshP g k := by
  obtain ⟨j, hj, e⟩ := (h1 _).1 hn
  exact fun h => (h.2 j hj).1 (nameK_inj e).symm
theorem stale_seed {g : Nat → TeamD} {k : Nat} {L2 : List Lit} (h2 : keysUpto seedK g k L2) (hs : seedK (g k) ∈ L2) : ¬ freshP g k := by
  obtain ⟨j, hj, e⟩ := (h2 _).1 hs
  exact fun h => (h.2 j hj).2 (seedK_inj e).symm

theorem fieldOk_impl (v : Value) (n : Nat) (g : Nat → TeamD) (R : Bool) (w : World) (h : TeamRow w v n g) (hg : ∀ i, (g i).nm.size ≤ maxLen) (hR : R = true ↔ fieldP n g) :
    Calls Try.prog 45 #[v] w fun e w' => e = .returned (.bool R) ∧ Below w.heap.size w w' := by
  obtain ⟨a, cap, rfl, hn, hv⟩ := h.form'
  have HV := Lib.hid hv
  have HG := Lib.hid hg
  have HR := Lib.hid hR
  clear hv h hg hR
  have hmm := @run_makeMap Try.prog
  by_cases hlo : n < 2
  · have hf : R = false := by
      cases R with
      | false => rfl
      | true => exact absurd (HR.out.1 rfl).1 (by omega)
    subst hf
    have g1 : decide ((n : Int) < 2) = true := decide_eq_true (by omega)
    clear HR HV HG hlo
    go_enter Try.func45, Try.ntmps45
    go_wp2
    go_ret
    exact ⟨rfl, Below.refl _ _⟩
  have g1 : decide ((n : Int) < 2) = false := decide_eq_false (by omega)
  by_cases hhi : 8 < n
  · have hf : R = false := by
      cases R with
      | false => rfl
      | true => exact absurd (HR.out.1 rfl).1 (by omega)
    subst hf
    have g2 : decide ((8 : Int) < n) = true := decide_eq_true (by omega)
    clear HR HV HG hlo hhi
    go_enter Try.func45, Try.ntmps45
    go_wp2
    go_ret
    exact ⟨rfl, Below.refl _ _⟩
  have g2 : decide ((8 : Int) < n) = false := decide_eq_false (by omega)
  have hn8 : 2 ≤ n ∧ n ≤ 8 := by omega
  clear hlo hhi
  have HNO : Hid ((∃ k, k < n ∧ ¬ freshP g k) → R = false) := by
    rintro ⟨k, hk, hf⟩
    cases R with
    | false => rfl
    | true => exact absurd ((HR.out.1 rfl).2 k hk) hf
  have HYES : Hid ((∀ k, k < n → freshP g k) → R = true) := fun h => HR.out.2 ⟨hn8, h⟩
  clear HR
  have HK1 := Lib.hid kStr
  have HK2 := Lib.hid kInt
  have HZ := Lib.hid zBool
  go_enter Try.func45, Try.ntmps45
  go_wp2
  have m1 : BoolMap Try.prog (w.alloc (.map #[] 0)) 9 4 w.heap.size 0 [] := BoolMap.made w _ _ _
  have m2 : BoolMap Try.prog ((w.alloc (.map #[] 0)).alloc (.map #[] 0)) 3 4 (w.heap.size + 1) 0 [] := by
    have := BoolMap.made (w.alloc (.map #[] 0)) Try.prog 3 4
    simpa using this
  go_loopw [19] (fun i wr => ∃ (k : Nat) (L1 L2 : List Lit), k ≤ n ∧ i = .int .i64 k ∧ BoolMap Try.prog wr 9 4 w.heap.size k L1 ∧ BoolMap Try.prog wr 3 4 (w.heap.size + 1) k L2 ∧
      Hid (keysUpto nameK g k L1) ∧ Hid (keysUpto seedK g k L2) ∧ Hid (∀ j, j < k → freshP g j) ∧ Below w.heap.size w wr) (fun i _ => n - (RowKit.intOf i).toNat)
  case atStart =>
    exact ⟨0, [], [], Nat.zero_le _, rfl, m1.alloc _, m2, fun kl => by simp, fun kl => by simp, fun j hj => absurd hj (by omega),
      ((Below.refl _ _).alloc (Nat.le_refl _) _).alloc (by simp) _⟩
  case round =>
    clear m1 m2
    obtain ⟨k, L1, L2, hk, rfl, m1, m2, hL1, hL2, hfr, hb⟩ := hrel
    by_cases hlt : k < n
    · obtain ⟨b, off, rfl, hcap, hc⟩ := HV.out (by omega)
      obtain ⟨c0, c1, c2⟩ := cells_below hb (hc k hlt)
      have hgk := HG.out k
      have HBad : Hid (¬ freshP g k → R = false) := fun h => HNO.out ⟨k, hlt, h⟩
      have HStep : Hid (freshP g k → ∀ j, j < k + 1 → freshP g j) := fun h j hj => by
        by_cases hjk : j = k
        · subst hjk; exact h
        · exact hfr.out j (by omega)
      clear hc HV HG HNO hfr
      by_cases hx : ¬ teamP (g k)
      · have hf : R = false := HBad.out fun h => hx h.1
        subst hf
        have HX := Lib.hid hx
        clear hx HBad HStep HYES hL1 hL2
        generalize g k = x at *
        go_wp2_with (go_at_call 81; refine (teamOkI_no x _ hgk HX.out).mono ?_; rintro e w2 ⟨rfl, b2⟩; have hb2 : Below w.heap.size w w2 := (hb.alloc hb.size _).trans (b2.mono (Nat.le_trans hb.size (by simp))))
        go_ret
        exact ⟨rfl, hb2⟩
      replace hx := Classical.not_not.1 hx
      have HX := Lib.hid hx
      have hwf : (Lit.int .i64 (g k).seed).wf = true := WalkArith.wf_i64 (by have := hx.2.2; omega)
      have HK1 : Hid (keyOf Try.prog 9 (.string (g k).nm) = some (nameK (g k))) := WideMaps.keyOf_string_mk Try.underlying9 hgk
      have HK2 : Hid (keyOf Try.prog 3 (.int .i64 (g k).seed) = some (seedK (g k))) := keyOf_int_mk Try.underlying3 hwf
      have HF : Hid (nameK (g k) ∉ L1 → seedK (g k) ∉ L2 → freshP g k) := fun h1 h2 => fresh_of hL1.out hL2.out HX.out h1 h2
      have HN : Hid (nameK (g k) ∈ L1 → R = false) := fun h => HBad.out (stale_name hL1.out h)
      have HS : Hid (seedK (g k) ∈ L2 → R = false) := fun h => HBad.out (stale_seed hL2.out h)
      have hN1 := Lib.hid hL1.out.next
      have hN2 := Lib.hid hL2.out.next
      clear hx hwf HBad hL1 hL2
      have hl1 := m1.lt
      have hl2 := m2.lt
      have M1 : ∀ (o : Obj) (w2 : World), Below (wr.alloc o).heap.size (wr.alloc o) w2 → BoolMap Try.prog w2 9 4 w.heap.size k L1 := fun o w2 hb => (m1.alloc o).below hb (Nat.le_refl _)
      have M2 : ∀ (o : Obj) (w2 : World), Below (wr.alloc o).heap.size (wr.alloc o) w2 → BoolMap Try.prog w2 3 4 (w.heap.size + 1) k L2 := fun o w2 hb => (m2.alloc o).below hb (Nat.le_refl _)
      have M1 := Lib.hid M1
      have M2 := Lib.hid M2
      clear m1 m2
      by_cases hi1 : nameK (g k) ∈ L1
      · have hf : R = false := HN.out hi1
        subst hf
        have HI1 := Lib.hid hi1
        clear hi1 HN HS HF HStep HYES hN1 hN2 HK2
        generalize g k = x at *
        go_wp2_with (go_at_call 81; refine (teamOkI_yes x _ hgk HX.out).mono ?_; rintro e w2 ⟨rfl, b2⟩; obtain ⟨k0, k1, k2⟩ := var3 b2; have m1 := M1.out _ _ b2; have m2 := M2.out _ _ b2; have hb2 : Below w.heap.size w w2 := (hb.alloc hb.size _).trans (b2.mono (Nat.le_trans hb.size (by simp))); have hlB : wr.heap.size < w2.heap.size := World.block_lt_of_cell? _ _ k0; have r1 := (m1.run kStr Try.underlying122 Try.underlying4 (zBool _) HK1.out).1 HI1.out)
        go_ret
        exact ⟨rfl, hb2⟩
      have HI1 := Lib.hid hi1
      clear hi1 HN
      by_cases hi2 : seedK (g k) ∈ L2
      · have hf : R = false := HS.out hi2
        subst hf
        have HI2 := Lib.hid hi2
        clear hi2 HS HF HStep HYES hN1 hN2
        generalize g k = x at *
        go_wp2_with (go_at_call 81; refine (teamOkI_yes x _ hgk HX.out).mono ?_; rintro e w2 ⟨rfl, b2⟩; obtain ⟨k0, k1, k2⟩ := var3 b2; have m1 := M1.out _ _ b2; have m2 := M2.out _ _ b2; have hb2 : Below w.heap.size w w2 := (hb.alloc hb.size _).trans (b2.mono (Nat.le_trans hb.size (by simp))); have hlB : wr.heap.size < w2.heap.size := World.block_lt_of_cell? _ _ k0; have r1 := (m1.run kStr Try.underlying122 Try.underlying4 (zBool _) HK1.out).2 HI1.out; have r2 := (m2.run kInt Try.underlying123 Try.underlying4 (zBool _) HK2.out).1 HI2.out)
        go_ret
        exact ⟨rfl, hb2⟩
      have HI2 := Lib.hid hi2
      have HNext : Hid (∀ j, j < k + 1 → freshP g j) := HStep.out (HF.out HI1.out hi2)
      clear hi2 HS HF HStep
      generalize g k = x at *
      have kk1 : WideAt.IsKeyLit (nameK x) := trivial
      have kk2 : WideAt.IsKeyLit (seedK x) := trivial
      go_wp2_with (first
        | (go_at_call 81; refine (teamOkI_yes x _ hgk HX.out).mono ?_; rintro e w2 ⟨rfl, b2⟩; obtain ⟨k0, k1, k2⟩ := var3 b2; have m1 := M1.out _ _ b2; have m2 := M2.out _ _ b2; have hb2 : Below w.heap.size w w2 := (hb.alloc hb.size _).trans (b2.mono (Nat.le_trans hb.size (by simp))); have hlB : wr.heap.size < w2.heap.size := World.block_lt_of_cell? _ _ k0; have r1 := (m1.run kStr Try.underlying122 Try.underlying4 (zBool _) HK1.out).2 HI1.out; have r2 := (m2.run kInt Try.underlying123 Try.underlying4 (zBool _) HK2.out).2 HI2.out; have HM1 := Lib.hid m1; have HM2 := Lib.hid m2; clear m1 m2)
        | (at_mapUpdate; refine wpList_boolTrue rfl (.tmp 38) (.tmp 40) (.const (.bool true)) 122 rfl 9 4 kStr Try.underlying122 Try.underlying4 w.heap.size k L1 rfl HM1.out (by unfold maxLen; omega) _ (nameK x) rfl rfl HK1.out kk1 ?_; intro w3 m3 g3; have n2 : w3.cell? ⟨wr.heap.size, 2, none⟩ = some (.int .i64 x.seed) := g3.cell k2 (by simp; omega))
        | (at_mapUpdate; refine wpList_boolTrue rfl (.tmp 41) (.tmp 43) (.const (.bool true)) 123 rfl 3 4 kInt Try.underlying123 Try.underlying4 (w.heap.size + 1) k L2 rfl (HM2.out.grown g3 (by simp)) (by unfold maxLen; omega) _ (seedK x) rfl rfl HK2.out kk2 ?_; intro w4 m4 g4))
      go_roundw
      case rel =>
        exact ⟨k + 1, _, _, by omega, by go_num, m3.grown g4 (by simp), m4, hN1, hN2, HNext, (hb2.grown g3 hb2.size (fun q hq => by cases hq; exact Nat.le_refl _)).grown g4 (Nat.le_trans hb2.size g3.size) (fun q hq => by cases hq; omega)⟩
      case measure => simp [RowKit.intOf]; omega
    · obtain rfl : k = n := by omega
      have hf : R = true := HYES.out hfr.out
      subst hf
      clear HNO HYES hfr
      go_wp2
      go_ret
      exact ⟨rfl, hb⟩
end Go.Proofs.Ytmhkkdnopcdibaa
set_option linter.unusedVariables false
namespace Go.Proofs.Ytmhkkdnopcdibaa
open Go.RowKit Go.Maps

theorem fieldOkI_yes (v : Value) (n : Nat) (g : Nat → TeamD) (w : World) (h : TeamRow w v n g) (hg : ∀ i, (g i).nm.size ≤ maxLen) (hp : fieldP n g) :
    Calls Try.prog 45 #[v] w fun e w' => e = .returned (.bool true) ∧ Below w.heap.size w w' := fieldOk_impl v n g true w h hg ⟨fun _ => hp, fun _ => rfl⟩
theorem fieldOkI_no (v : Value) (n : Nat) (g : Nat → TeamD) (w : World) (h : TeamRow w v n g) (hg : ∀ i, (g i).nm.size ≤ maxLen) (hp : ¬ fieldP n g) :
    Calls Try.prog 45 #[v] w fun e w' => e = .returned (.bool false) ∧ Below w.heap.size w w' := fieldOk_impl v n g false w h hg ⟨fun h => absurd h (by simp), fun h => absurd h hp⟩
def clubK (t : TeamD) : Lit := .int .i64 t.club
theorem keyLitI {x : Int} : WideAt.IsKeyLit (.int .i64 x) := trivial
theorem zBoolV (w : World) : (zeroValue 4).run Try.prog w = .ok (.bool false) w := by kernel_rfl
theorem leftN_put {D : DataW Unit} {x : Nat} {z : DataW Unit} (ht : Tidy D) : ∀ c, x < c → (has D (.int .i64 (x : Int)) = false) → leftN (has (D.put (.int .i64 (x : Int)) z)) c = leftN (has D) c + 1 := by
  intro c hc hno
  have h1 : has (D.put (.int .i64 (x : Int)) z) (.int .i64 (x : Int)) = true := has_put_same ht.isMap keyLitI z
  rw [← leftN_strike h1 c hc]
  congr 1
  refine leftN_congr c fun j hj => ?_
  simp only [same_int]
  by_cases hjx : (j : Int) = x
  · rw [hjx, hno]; simp
  · rw [decide_eq_false hjx]
    rw [has_put_other (by intro e; simp only [Lit.int.injEq, true_and] at e; exact hjx e)]; simp
theorem leftN_has {D : DataW Unit} {x : Nat} {z : DataW Unit} (ht : Tidy D) (c : Nat) (hyes : has D (.int .i64 (x : Int)) = true) : leftN (has (D.put (.int .i64 (x : Int)) z)) c = leftN (has D) c := by
  refine leftN_congr c fun j hj => ?_
  by_cases hjx : (j : Int) = x
  · rw [hjx, hyes, has_put_same ht.isMap keyLitI z]
  · rw [has_put_other (by intro e; simp only [Lit.int.injEq, true_and] at e; exact hjx e)]
def clubSet (g : Nat → TeamD) (k : Nat) (D : DataW Unit) : Prop := (∀ kl, has D kl = true ↔ ∃ j, j < k ∧ kl = clubK (g j)) ∧ size D = leftN (has D) 6
theorem clubSet.next {g : Nat → TeamD} {k : Nat} {D : DataW Unit} {z : DataW Unit} (h : clubSet g k D) (ht : Tidy D) (hc : 0 ≤ (g k).club ∧ (g k).club < 6) : clubSet g (k + 1) (D.put (clubK (g k)) z) := by
  refine ⟨fun kl => ?_, ?_⟩
  · by_cases hk : kl = clubK (g k)
    · subst hk
      rw [show has (D.put (clubK (g k)) z) (clubK (g k)) = true from has_put_same ht.isMap (keyLitI (x := (g k).club)) z]
      exact ⟨fun _ => ⟨k, by omega, rfl⟩, fun _ => rfl⟩
    · rw [has_put_other hk, h.1 kl]
      constructor
      · rintro ⟨j, hj, e⟩; exact ⟨j, by omega, e⟩
      · rintro ⟨j, hj, e⟩
        by_cases hjk : j = k
        · subst hjk; exact absurd e hk
        · exact ⟨j, by omega, e⟩
  · obtain ⟨x, hx⟩ : ∃ x : Nat, (g k).club = x := ⟨(g k).club.toNat, by omega⟩
    have hkl : clubK (g k) = .int .i64 (x : Int) := by unfold clubK; rw [hx]
    rw [hkl, size_put ht]
    by_cases hh : has D (.int .i64 (x : Int)) = true
    · rw [if_pos hh, leftN_has ht 6 hh, h.2]
    · rw [if_neg hh, leftN_put ht 6 (by omega) (by simpa using hh), h.2]
theorem selL_pos {f : Nat → Int} {c : Int} : ∀ k, 0 < (selL f c k).length ↔ ∃ j, j < k ∧ f j = c
  | 0 => ⟨fun h => by simp [selL] at h, fun ⟨j, hj, _⟩ => absurd hj (by omega)⟩
  | k + 1 => by
    by_cases h : f k = c
    · rw [selL_yes h]
      exact ⟨fun _ => ⟨k, by omega, h⟩, fun _ => by simp⟩
    · rw [selL_no h, selL_pos k]
      constructor
      · rintro ⟨j, hj, e⟩; exact ⟨j, by omega, e⟩
      · rintro ⟨j, hj, e⟩
        by_cases hjk : j = k
        · subst hjk; exact absurd e h
        · exact ⟨j, by omega, e⟩
theorem clubSet.size {g : Nat → TeamD} {n : Nat} {D : DataW Unit} (h : clubSet g n D) : size D = clubsN g n 6 := by
  rw [h.2]
  have key : ∀ c, leftN (has D) c = clubsN g n c := by
    intro c
    induction c with
    | zero => rfl
    | succ c ih =>
      unfold leftN clubsN
      rw [ih]
      have hiff : has D (.int .i64 (c : Int)) = true ↔ 0 < (selL (fun i => (g i).club) (c : Int) n).length := by
        rw [h.1, selL_pos]
        constructor
        · rintro ⟨j, hj, e⟩
          unfold clubK at e
          simp only [Lit.int.injEq, true_and] at e
          exact ⟨j, hj, e.symm⟩
        · rintro ⟨j, hj, e⟩
          exact ⟨j, hj, by unfold clubK; rw [e]⟩
      by_cases hp : 0 < (selL (fun i => (g i).club) (c : Int) n).length
      · rw [if_pos (hiff.2 hp), if_pos hp]
      · rw [if_neg (fun e => hp (hiff.1 e)), if_neg hp]
  exact key 6
end Go.Proofs.Ytmhkkdnopcdibaa
