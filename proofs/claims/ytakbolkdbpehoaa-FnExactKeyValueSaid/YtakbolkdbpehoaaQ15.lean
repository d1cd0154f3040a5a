/-
  Packed: ValMap, ValueImpl.
-/
import Derived.Lib.SlKeysI
import Derived.Test.YtakbolkdbpehoaaQ9
import Derived.Test.YtakbolkdbpehoaaQ14
set_option linter.unusedVariables false
namespace Go.Proofs.Ytakbolkdbpehoaa
open Go.RowKit Go.Maps

/-- a value read as itself -/
def heldE (v : Value) : Option (DataW Value × List MemPlace) := some (.held v, [])
theorem heldE_inv {v : Value} {z : DataW Value × List MemPlace} (h : heldE v = some z) : z = (.held v, []) := (Option.some.inj h).symm
/-- D holds F -/
def MapV (F : Lit → Option Value) (D : DataW Value) : Prop := (∀ kl, has D kl = true ↔ ∃ v, F kl = some v) ∧ ∀ kl v, F kl = some v → ∀ z, D.atKey kl z = .held v
theorem MapV.none : MapV (fun _ => none) (.map []) := ⟨fun kl => ⟨fun h => by simp [Maps.has_eq] at h, fun ⟨_, h⟩ => by cases h⟩, fun _ _ h => by cases h⟩
theorem MapV.put {F F' : Lit → Option Value} {D : DataW Value} {kl : Lit} {v : Value} (h : MapV F D) (hm : IsMap D) (hk : WideAt.IsKeyLit kl) (h1 : F' kl = some v) (h2 : ∀ z, z ≠ kl → F' z = F z) : MapV F' (D.put kl (.held v)) := by
  obtain ⟨ha, hb⟩ := h
  refine ⟨fun x => ?_, fun x u hx z => ?_⟩
  · by_cases e : x = kl
    · subst e
      rw [has_put_same hm hk]
      exact ⟨fun _ => ⟨v, h1⟩, fun _ => rfl⟩
    · rw [has_put_other e, ha x, h2 x e]
  · by_cases e : x = kl
    · subst e
      rw [atKey_put_same hm hk]
      rw [h1] at hx
      rw [Option.some.inj hx]
    · rw [atKey_put_other e]
      rw [h2 x e] at hx
      exact hb x u hx z
theorem MapV.del {F F' : Lit → Option Value} {D : DataW Value} {kl : Lit} (h : MapV F D) (h1 : F' kl = Option.none) (h2 : ∀ z, z ≠ kl → F' z = F z) : MapV F' (D.del kl) := by
  obtain ⟨ha, hb⟩ := h
  refine ⟨fun x => ?_, fun x u hx z => ?_⟩
  · by_cases e : x = kl
    · subst e
      rw [has_del_same, h1]
      exact ⟨(fun h => by cases h), (fun ⟨_, h⟩ => by cases h)⟩
    · rw [has_del_other e, ha x, h2 x e]
  · by_cases e : x = kl
    · subst e
      rw [h1] at hx; cases hx
    · rw [atKey_del_other e]
      rw [h2 x e] at hx
      exact hb x u hx z
/-- block m of w is such a map, of at most n entries -/
def ValMap (P : Program) (w : World) (k : TypeId) (m n : Nat) (F : Lit → Option Value) : Prop := ∃ D : DataW Value, w.ownsMap P k heldE m n D ∧ MapV F D
/-- .. and is being ranged over -/
def ValRange (P : Program) (w : World) (k : TypeId) (m r n : Nat) (F : Lit → Option Value) (left : Lit → Bool) (cnt : Nat) : Prop := ∃ D : DataW Value, w.ranges P k heldE m r n D left cnt ∧ MapV F D
section
variable {P : Program} {w w' : World} {k e t : TypeId} {m n r cnt : Nat} {F : Lit → Option Value} {left : Lit → Bool}
theorem ValMap.made (w : World) (P : Program) (k : TypeId) : ValMap P (w.alloc (.map #[] 0)) k w.heap.size 0 (fun _ => none) := ⟨.map [], World.ownsMap_made w P k _, MapV.none⟩
theorem ValMap.grown {row : Option Nat} (h : ValMap P w k m n F) (hg : w.grownBy w' row) (hne : some m ≠ row) : ValMap P w' k m n F := by
  obtain ⟨D, ho, hD⟩ := h
  exact ⟨D, ho.kept hg hne, hD⟩
theorem ValMap.below {B : Nat} (h : ValMap P w k m n F) (hb : Below B w w') (hB : w.heap.size ≤ B) : ValMap P w' k m n F := h.grown (below_grown hb hB) (by simp)
theorem ValMap.alloc (h : ValMap P w k m n F) (x : Obj) : ValMap P (w.alloc x) k m n F := h.grown (World.grownBy_alloc w x none) (by simp)
theorem ValMap.mono {n' : Nat} (h : ValMap P w k m n F) (hn : n ≤ n') : ValMap P w k m n' F := by
  obtain ⟨D, ho, hD⟩ := h
  exact ⟨D, ho.mono hn, hD⟩
theorem ValMap.lt (h : ValMap P w k m n F) : m < w.heap.size := by
  obtain ⟨D, ho, _⟩ := h
  exact ho.lt
theorem ValMap.congr {F' : Lit → Option Value} (h : ValMap P w k m n F) (hF : ∀ s, F' s = F s) : ValMap P w k m n F' := by
  obtain rfl : F' = F := funext hF
  exact h
/-- 'm[key]' -/
theorem ValMap.run (h : ValMap P w k m n F) (K : Keyed P k) (ht : P.underlying t = some (.map k e)) {z : Value} (hz : (zeroValue e).run P w = .ok z w) {key : Value} {kl : Lit} (hkey : keyOf P k key = some kl) :
    (Instr.lookup t (.map (some m)) key false).run P w = .ok ((F kl).getD z) w := by
  obtain ⟨D, ho, ha, hb⟩ := h
  obtain ⟨v, ps, hrun, hv⟩ := ho.lookup K ht hz (show heldE z = some (.held z, []) from rfl) hkey
  have h1 := heldE_inv hv
  simp only [Prod.mk.injEq] at h1
  have h2 : v = (F kl).getD z := by
    cases hF : F kl with
    | some u =>
      rw [hb kl u hF] at h1
      have := h1.1
      simp only [DataW.held.injEq] at this
      exact this.symm
    | none =>
      have h3 : has D kl = false := by
        cases hh : has D kl with
        | false => rfl
        | true => obtain ⟨u, hu⟩ := (ha kl).1 hh; rw [hF] at hu; cases hu
      rw [atKey_of_not_has h3] at h1
      have := h1.1
      simp only [DataW.held.injEq] at this
      exact this.symm
  rw [hrun, h2]
theorem ValMap.len (h : ValMap P w k m n F) (ht : P.underlying t = some (.map k e)) (ty : TypeId) : ∃ c : Nat, c ≤ n ∧ (Builtin.len_ #[t] ty #[.map (some m)]).run P w = .ok (.int .i64 (c : Int)) w := by
  obtain ⟨D, ho, _⟩ := h
  exact ⟨_, ho.size_le, ho.len ht ty⟩
/-- 'm[key] = v' -/
theorem wpList_valPut {ops : Array Oper} {rest : List Oper} {op : Oper} {a : Act} {Q : Exit → Act → World → Prop} (hg : op.guard = none) (mm x v : Operand) (t : TypeId) (hop : op.op = Op.mapUpdate t mm x v)
    (k e : TypeId) (K : Keyed P k) (ht : P.underlying t = some (.map k e)) (m n : Nat) (F F' : Lit → Option Value)
    (hm : a.eval mm = .map (some m)) (hown : ValMap P w k m n F) (hn : n < maxLen) (key val : Value) (kl : Lit) (hx : a.eval x = key) (hv : a.eval v = val) (hkey : keyOf P k key = some kl) (hk : WideAt.IsKeyLit kl) (h1 : F' kl = some val) (h2 : ∀ z, z ≠ kl → F' z = F z)
    (hK : ∀ w', ValMap P w' k m (n + 1) F' → w.grownBy w' (some m) → wpList P ops Q rest (a.put op.dst undef) w') :
    wpList P ops Q (op :: rest) a w := by
  obtain ⟨D, ho, hD⟩ := hown
  exact wpList_mapUpdate_own w hg mm x v t hop k e K ht heldE m n D hm ho hn key val kl hx hv hkey (.held val) [] rfl fun w' g1 g2 => hK w' ⟨_, g1, hD.put ho.isMap hk h1 h2⟩ g2
/-- 'range m' -/
theorem wpList_valRange {ops : Array Oper} {rest : List Oper} {op : Oper} {a : Act} {Q : Exit → Act → World → Prop} (hg : op.guard = none) (mm : Operand) (t : TypeId) (hop : op.op = Op.range t mm) (k e : TypeId) (K : Keyed P k) (ht : P.underlying t = some (.map k e)) (m n : Nat) (F : Lit → Option Value)
    (hm : a.eval mm = .map (some m)) (hown : ValMap P w k m n F)
    (hK : ∀ w' left cnt, (∀ kl, left kl = true ↔ ∃ v, F kl = some v) → ValRange P w' k m w.heap.size n F left cnt → w.grownBy w' none → w'.heap.size = w.heap.size + 1 → wpList P ops Q rest (a.put op.dst (.pointer (some ⟨w.heap.size, 0, none⟩))) w') :
    wpList P ops Q (op :: rest) a w := by
  obtain ⟨D, ho, hD⟩ := hown
  exact wpList_range_own w hg mm t hop k e K ht heldE m n D hm ho fun w' g1 g2 g3 => hK w' _ _ hD.1 ⟨D, g1, hD⟩ g2 g3
/-- the step -/
theorem wpList_valNext {ops : Array Oper} {rest : List Oper} {op : Oper} {a : Act} {Q : Exit → Act → World → Prop} (hg : op.guard = none) (it : Operand) (hop : op.op = Op.next it false) (k : TypeId) (K : Keyed P k)
    (m r n : Nat) (F : Lit → Option Value) (left : Lit → Bool) (cnt : Nat) (hit : a.eval it = .pointer (some ⟨r, 0, none⟩)) (h : ValRange P w k m r n F left cnt)
    (hDone : cnt = 0 → (∀ kl, left kl = false) → wpList P ops Q rest (a.put op.dst (.tuple #[.bool false])) w)
    (hMore : ∀ (key v : Value) (kl : Lit) (w' : World) (cnt' : Nat), keyOf P k key = some kl → left kl = true → (∀ u, F kl = some u → u = v) → ValRange P w' k m r n F (fun z => left z && !z.sameKey kl) cnt' → cnt' < cnt →
      w.grownBy w' (some r) → w'.heap.size = w.heap.size → (Instr.entry (.pointer (some ⟨r, 0, none⟩))).run P w' = .ok (.tuple #[key, v]) w' → wpList P ops Q rest (a.put op.dst (.tuple #[.bool true, key, v])) w') :
    wpList P ops Q (op :: rest) a w := by
  obtain ⟨D, ho, hD⟩ := h
  refine wpList_next_ranges w hg it hop k K heldE id id (fun key _ _ => ⟨key, rfl⟩) (fun v _ _ => ⟨v, rfl⟩)
    m r n D left cnt hit ho hDone fun key v kl y w' cnt' hkey hl hv hat hrg hlt hgr hsz hen => ?_
  refine hMore key v kl w' cnt' hkey hl (fun u hu => ?_) ⟨D, hrg, hD⟩ hlt hgr hsz hen
  have h1 := hat (.held u)
  rw [hD.2 kl u hu, heldE_inv hv] at h1
  simpa using h1
theorem ValRange.owns (h : ValRange P w k m r n F left cnt) : ValMap P w k m n F := by
  obtain ⟨D, ho, hD⟩ := h
  exact ⟨D, ho.owns, hD⟩
theorem ValRange.left_eq (h : ValRange P w k m r n F left cnt) : w.rangeLeft m r = cnt := by
  obtain ⟨D, ho, _⟩ := h
  exact ho.left_eq
theorem ValRange.kept {row : Option Nat} (h : ValRange P w k m r n F left cnt) (hg : w.grownBy w' row) (hm : some m ≠ row) (hr : some r ≠ row) : ValRange P w' k m r n F left cnt := by
  obtain ⟨D, ho, hD⟩ := h
  exact ⟨D, ho.kept hg hm hr, hD⟩
theorem ValRange.below {B : Nat} (h : ValRange P w k m r n F left cnt) (hb : Below B w w') (hB : w.heap.size ≤ B) : ValRange P w' k m r n F left cnt := h.kept (below_grown hb hB) (by simp) (by simp)
theorem has_lit {H : Type} {es : List (Lit × DataW H)} {x : Lit} (hx : WideAt.IsKeyLit x) : has (.map es) x = true ↔ ∃ p ∈ es, p.1 = x := by
  rw [Maps.has_eq, List.any_eq_true]
  constructor
  · rintro ⟨p, hp, hs⟩; exact ⟨p, hp, WideAt.sameKey_eq hs⟩
  · rintro ⟨p, hp, hs⟩; exact ⟨p, hp, by rw [hs]; exact WideAt.sameKey_self hx⟩
/-- the keys of such a map over ints: none twice, and just those with a value -/
theorem MapV.keys {D : DataW Value} (K : Keyed P k) (hi : ∀ kl v, F kl = some v → ∃ s, kl = .int .i64 s) (ho : w.ownsMap P k heldE m n D) (hD : MapV F D) : (Go.intKeys D).Nodup ∧ (∀ s, s ∈ Go.intKeys D ↔ ∃ v, F (.int .i64 s) = some v) ∧ (Go.intKeys D).length = Maps.size D := by
  obtain ⟨es, rfl, hpw, hkl⟩ := ho.entries K
  have hk : ∀ p ∈ es, ∃ x, p.1 = .int .i64 x := fun p hp => by
    have : has (.map es) p.1 = true := (has_lit (hkl p hp)).2 ⟨p, hp, rfl⟩
    obtain ⟨v, hv⟩ := (hD.1 p.1).1 this
    exact hi _ _ hv
  refine ⟨?_, fun s => ?_, ?_⟩
  · show (es.map fun p => Go.intOf p.1).Nodup
    rw [List.Nodup, List.pairwise_map]
    refine hpw.imp_of_mem fun ha hb hne e => hne ?_
    obtain ⟨x, hx⟩ := hk _ ha
    obtain ⟨y, hy⟩ := hk _ hb
    rw [hx, hy] at e ⊢
    have e2 : x = y := e
    rw [e2]
  · show s ∈ es.map (fun p => Go.intOf p.1) ↔ _
    rw [← hD.1, has_lit (show WideAt.IsKeyLit (.int .i64 s) from trivial), List.mem_map]
    constructor
    · rintro ⟨p, hp, e⟩
      obtain ⟨x, hx⟩ := hk p hp
      refine ⟨p, hp, ?_⟩
      rw [hx] at e ⊢
      have e2 : x = s := e
      rw [e2]
    · rintro ⟨p, hp, e⟩
      exact ⟨p, hp, by rw [e]; rfl⟩
  · show (es.map fun p => Go.intOf p.1).length = es.length
    simp
end
end Go.Proofs.Ytakbolkdbpehoaa
set_option linter.unusedVariables false
namespace Go.Proofs.Ytakbolkdbpehoaa
open Go.RowKit Go.Maps

set_option maxRecDepth 100000 in
set_option maxHeartbeats 2000000 in
theorem keyValue_impl (vf vl vg vfa vta : Value) (b : BookD) (key team : Int) (gv : Value) (ng : Nat) (gg : Nat → Int) (R : Bool) (w : World) (hR : R = true ↔ keyP b team) (h : BookRow w vf vl vg vfa vta b) (hs : ∀ i, (b.f i).nm.size ≤ maxLen) (hgv : IntRow w gv ng gg) :
    Calls Try.prog 12 #[.agg #[vf, .int .i64 b.win, .int .i64 b.draw, .int .i64 b.loss, vl, .bool b.again, vg, vfa, vta], .int .i64 key, .int .i64 team, gv] w fun e w' =>
      e = .returned (.int .i64 (if R = true then bookV b key gg ng team.toNat else 0)) ∧ Below w.heap.size w w' := by
  obtain ⟨fa, fc, la, lc, ga, gc, qa, qc, ta, tc, rfl, rfl, rfl, rfl, rfl⟩ := h.form
  obtain ⟨r1, hr1⟩ := boolEx (bookP b)
  have C1 := Lib.hid (fun wa h1 => bookOk_impl (.slice fa b.nf fc) (.slice la b.nl lc) (.slice ga b.m gc) (.slice qa b.nfa qc) (.slice ta b.nta tc) b r1 wa hr1 h1 hs)
  have C2 := Lib.hid (fun wa h1 => isTeamOf_impl (.slice fa b.nf fc) (.slice la b.nl lc) (.slice ga b.m gc) (.slice qa b.nfa qc) (.slice ta b.nta tc) b team wa h1)
  have hall : R = true ↔ (r1 = true ∧ 0 ≤ team ∧ team ≤ (b.nf : Int) - 1) := by rw [hR, hr1]; exact Iff.rfl
  have HN := Lib.hid (boolF hall)
  have HY := Lib.hid (boolT hall)
  have HB1 : Hid (r1 = true → bookP b) := hr1.1
  have HG := Lib.hid hgv
  obtain ⟨xa, xc, rfl, _, _⟩ := hgv.form
  have K0 := Lib.hid (BkAt.made h 35)
  have hsix := h.sixty
  clear hR hr1 hall h hgv hs
  go_enter Try.func12, Try.ntmps12
  cases r1 with
  | false =>
    obtain rfl := HN.out fun h => by have := h.1; cases this
    clear HN HY
    obtain ⟨d0, d1, d2, d3, d4, d5, d6, d7, d8⟩ := K0.out.cells
    go_wp2_with fail
    refine (C1.out _ K0.out.row).mono ?_
    rintro e w1 ⟨rfl, b1⟩
    have K1 := Lib.hid (K0.out.next b1)
    clear d0 d1 d2 d3 d4 d5 d6 d7 d8 K0 b1
    obtain ⟨d0, d1, d2, d3, d4, d5, d6, d7, d8⟩ := K1.out.cells
    have HE := Lib.hid K1.out.bel
    go_wp2
    go_ret
    exact ⟨rfl, HE.out⟩
  | true =>
  have hbp := HB1.out rfl
  have HBP := Lib.hid hbp
  have hn8 : b.nf ≤ 8 := by have := hbp.1.1; omega
  obtain ⟨d0, d1, d2, d3, d4, d5, d6, d7, d8⟩ := K0.out.cells
  go_wp2_with fail
  refine (C1.out _ K0.out.row).mono ?_
  rintro e w1 ⟨rfl, b1⟩
  have K1 := Lib.hid (K0.out.next b1)
  clear d0 d1 d2 d3 d4 d5 d6 d7 d8 K0 b1
  obtain ⟨d0, d1, d2, d3, d4, d5, d6, d7, d8⟩ := K1.out.cells
  by_cases ht : 0 ≤ team ∧ team ≤ (b.nf : Int) - 1
  case neg =>
    obtain rfl := HN.out fun h => ht h.2
    have e2 : decide (0 ≤ team ∧ team < (b.nf : Int)) = false := decide_eq_false (by omega)
    rw [e2] at C2
    clear HN HY e2 ht hbp
    go_wp2_with fail
    refine (C2.out _ K1.out.row).mono ?_
    rintro e w2 ⟨rfl, b2⟩
    have K2 := Lib.hid (K1.out.next b2)
    clear d0 d1 d2 d3 d4 d5 d6 d7 d8 K1 b2
    obtain ⟨d0, d1, d2, d3, d4, d5, d6, d7, d8⟩ := K2.out.cells
    have HE := Lib.hid K2.out.bel
    go_wp2
    go_ret
    exact ⟨rfl, HE.out⟩
  obtain rfl := HY.out ⟨by first | rfl | trivial, ht⟩
  have e2 : decide (0 ≤ team ∧ team < (b.nf : Int)) = true := decide_eq_true (by omega)
  rw [e2] at C2
  obtain ⟨t, rfl⟩ : ∃ t : Nat, team = t := ⟨team.toNat, by omega⟩
  have ht2 : t < b.nf := by omega
  clear HN HY e2 ht hbp
  go_wp2_with fail
  refine (C2.out _ K1.out.row).mono ?_
  rintro e w2 ⟨rfl, b2⟩
  have K2 := Lib.hid (K1.out.next b2)
  clear d0 d1 d2 d3 d4 d5 d6 d7 d8 K1 b2
  obtain ⟨d0, d1, d2, d3, d4, d5, d6, d7, d8⟩ := K2.out.cells
  go_wp2_with fail
  refine (judgeOf_impl (.slice fa b.nf fc) (.slice la b.nl lc) (.slice ga b.m gc) (.slice qa b.nfa qc) (.slice ta b.nta tc) b _ HBP.out K2.out.row).mono ?_
  rintro e w3 ⟨ra, rc, rfl, hTR, b3⟩
  have HT3 := Lib.hid hTR
  clear hTR
  have K3 := Lib.hid (K2.out.next b3)
  clear d0 d1 d2 d3 d4 d5 d6 d7 d8 K2 b3
  obtain ⟨d0, d1, d2, d3, d4, d5, d6, d7, d8⟩ := K3.out.cells
  go_wp2_with fail
  refine (valueBy_impl fa fc la lc ga gc qa qc ta tc b ra rc key _ ng gg _ HBP.out K3.out.row HT3.out (HG.out.below K3.out.bel (Nat.le_refl _))).mono ?_
  rintro e w4 ⟨fv, rfl, hfv, b4⟩
  have HV4 := Lib.hid hfv
  have HE4 := Lib.hid (K3.out.bel.trans (b4.mono K3.out.bel.size))
  clear hfv b4 K3 d0 d1 d2 d3 d4 d5 d6 d7 d8
  obtain ⟨fN, bd, hbd, rfl, hen, hca⟩ := HV4.out
  have hrun := hen (bd.push (.int .i64 t)) w4
  have hcl := Lib.hid (hca t w4 ht2 (Below.refl _ _))
  obtain ⟨V, hV⟩ : ∃ V, bookV b key gg ng t = V := ⟨_, rfl⟩
  have HVV := Lib.hid hV
  rw [hV] at hcl
  clear hen hca HV4 C1 C2 HB1 hV
  rcases hbd with rfl | ⟨J, rfl⟩
  · simp only [List.push_toArray, List.nil_append] at hrun hcl
    go_wp2_with fail
    refine hcl.out.mono ?_
    rintro e w5 ⟨rfl, b5⟩
    have HE := Lib.hid (HE4.out.trans (b5.mono HE4.out.size))
    clear b5 hcl HE4 hrun
    go_wp2
    go_ret
    exact ⟨by first | (rw [← HVV.out]; rfl) | simp [← HVV.out], HE.out⟩
  · simp only [List.push_toArray, List.nil_append, List.cons_append] at hrun hcl
    go_wp2_with fail
    refine hcl.out.mono ?_
    rintro e w5 ⟨rfl, b5⟩
    have HE := Lib.hid (HE4.out.trans (b5.mono HE4.out.size))
    clear b5 hcl HE4 hrun
    go_wp2
    go_ret
    exact ⟨by first | (rw [← HVV.out]; rfl) | simp [← HVV.out], HE.out⟩

/-- a group of different teams -/
def diffP (n : Nat) (ng : Nat) (gg : Nat → Int) : Prop := teamsP n ng gg ∧ ∀ i, i < ng → ¬ hasP gg (gg i) i
def litsUpto (gg : Nat → Int) (k : Nat) (L : List Lit) : Prop := ∀ kl, kl ∈ L ↔ ∃ j, j < k ∧ kl = .int .i64 (gg j)
theorem litsUpto.next {gg : Nat → Int} {k : Nat} {L : List Lit} (h : litsUpto gg k L) : litsUpto gg (k + 1) (.int .i64 (gg k) :: L) := by
  intro kl
  rw [List.mem_cons, h kl]
  constructor
  · rintro (rfl | ⟨j, hj, rfl⟩)
    · exact ⟨k, by omega, rfl⟩
    · exact ⟨j, by omega, rfl⟩
  · rintro ⟨j, hj, rfl⟩
    by_cases hjk : j = k
    · subst hjk; exact .inl rfl
    · exact .inr ⟨j, by omega, rfl⟩
theorem litsUpto.has {gg : Nat → Int} {k : Nat} {L : List Lit} {x : Int} (h : litsUpto gg k L) : Lit.int .i64 x ∈ L ↔ hasP gg x k := by
  rw [h]
  unfold hasP
  constructor
  · rintro ⟨j, hj, e⟩
    simp only [Lit.int.injEq, true_and] at e
    exact ⟨j, hj, e.symm⟩
  · rintro ⟨j, hj, e⟩
    exact ⟨j, hj, by rw [e]⟩

end Go.Proofs.Ytakbolkdbpehoaa
