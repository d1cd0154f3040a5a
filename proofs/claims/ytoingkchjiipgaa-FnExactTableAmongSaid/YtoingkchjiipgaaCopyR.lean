/-
  copy between slices of records of k cells each, the target a row that the call itself made; slices.Repeat of one record.
-/
import Derived.Test.YtoingkchjiipgaaRecs
import Derived.Test.YtoingkchjiipgaaAwait
import Derived.Test.YtoingkchjiipgaaPush2
import Derived.Laws.IdiomCopy
set_option linter.unusedVariables false
namespace Go.Proofs.Ytoingkchjiipgaa
open Go.RowKit

theorem owns_setCells {base : Nat} {e : TypeId} {size g n cap : Nat} (cs : List Value) : ∀ {w : World} {xs : List Value} (_ : w.ownsRow base e size (.slice (some ⟨g, 0, none⟩) n cap) n xs) (s : Nat),
    (w.setCells g s cs).ownsRow base e size (.slice (some ⟨g, 0, none⟩) n cap) n (setsFrom xs s cs) := by
  induction cs with
  | nil => intro w xs h s; exact h
  | cons u us ih => intro w xs h s; exact ih (h.stored s u).1 (s + 1)
theorem below_setCells {B0 g : Nat} {a : World} (cs : List Value) : ∀ {w : World} (_ : Below B0 a w) (_ : B0 ≤ g) (s : Nat), Below B0 a (w.setCells g s cs) := by
  induction cs with
  | nil => intro w h _ s; exact h
  | cons u us ih => intro w h hB s; exact ih (Below.setCell h (p := ⟨g, s, none⟩) hB u) hB (s + 1)
theorem run_copyR {P : Program} (w : World) (dT sT ty elem : TypeId) (i : TypeInfo) (k g o dLen dCap : Nat) (a : Addr) (sLen sCap : Nat) (cs : List Value)
    (hu : P.underlying dT = some (.slice elem)) (hi : P.info? elem = some i) (hk : i.size = k) (hn : cs.length = Nat.min sLen dLen * k)
    (hsrc : ∀ j v, cs[j]? = some v → w.cell? (a.add j) = some v) (hc : ∀ j, j < cs.length → (w.cell? ⟨g, o + j, none⟩).isSome = true) (hf : ∀ j, j < cs.length → w.frozen? ⟨g, o + j, none⟩ = false) (h1 : ∀ v ∈ cs, v.oneCell' = true) :
    (Builtin.copy_ #[dT, sT] ty #[.slice (some ⟨g, o, none⟩) dLen dCap, .slice (some a) sLen sCap]).run P w = .ok (goInt (Nat.min sLen dLen)) (w.setCells g o cs) := by
  have hl := run_loadCells_list (P := P) w a cs hsrc
  have hst := run_storeCells_cells (P := P) g o cs 0 w (by simpa using hc) (by simpa using hf) h1
  subst hk
  simp [Builtin.copy_, run_underlying hu, Builtin.lenOf, Builtin.firstCells, sizeOf, typeInfo, hi, ← hn, hl, hst]
section
variable {P : Program} {ops : Array Oper} {o : Oper} {a : Act} {w : World}
/-- a copy of q records into an owned row -/
theorem upon_copyR {K : Act → World → Prop} {Q : Exit → Act → World → Prop} (d s : Operand) (dT sT : TypeId)
    (ho : o.op = .call { callee := .builtin .copy, args := #[d, s], argTypes := #[dT, sT] }) {base : Nat} {e : TypeId} {i : TypeInfo} {k : Nat} (hu : P.underlying dT = some (.slice e)) (hi : P.info? e = some i) (hk : i.size = k)
    {g n cap : Nat} {xs : List Value} (hown : w.ownsRow base e k (.slice (some ⟨g, 0, none⟩) n cap) n xs) (off dLen dCap : Nat) (ad : Addr) (sLen sCap : Nat)
    (hd : a.eval d = .slice (some ⟨g, off, none⟩) dLen dCap) (hs : a.eval s = .slice (some ad) sLen sCap) (cs : List Value) (q : Nat) (hq : q = Nat.min sLen dLen) (hn : cs.length = q * k)
    (hsrc : ∀ j v, cs[j]? = some v → w.cell? (ad.add j) = some v) (hfit : off + cs.length ≤ n * k) (h1 : ∀ v ∈ cs, v.oneCell' = true)
    (h : ∀ w', w'.ownsRow base e k (.slice (some ⟨g, 0, none⟩) n cap) n (setsFrom xs off cs) → Below base w w' → K (a.put o.dst (.int .i64 q)) w') :
    Oper.wp P o a w K Q := by
  subst hq
  have hlt := (hown.lt g rfl).1
  have hlen := hown.1
  have hrun := run_copyR (P := P) w dT sT o.type e i k g off dLen dCap ad sLen sCap cs hu hi hk hn hsrc
    (fun j hj => by rw [hown.cellAt _ (by omega)]; rw [List.getElem?_eq_getElem (by omega)]; rfl) (fun j hj => hown.frozenAt _) h1
  unfold Oper.wp
  simp [execOp, ho, resolve, invoke, builtin, hd, hs, hrun, Result.andThen]
  exact h _ (owns_setCells cs hown off) (below_setCells cs (Below.refl _ _) hlt off)
/-- the same as one step of a drawn region -/
theorem step_copyR {K : Act → World → Prop} {Q : Exit → Act → World → Prop} {E : Prop} (hgd : o.guard = none) (d s : Operand) (dT sT : TypeId)
    (ho : o.op = .call { callee := .builtin .copy, args := #[d, s], argTypes := #[dT, sT] }) {base : Nat} {e : TypeId} {i : TypeInfo} {k : Nat} (hu : P.underlying dT = some (.slice e)) (hi : P.info? e = some i) (hk : i.size = k)
    {g n cap : Nat} {xs : List Value} (hown : w.ownsRow base e k (.slice (some ⟨g, 0, none⟩) n cap) n xs) (off dLen dCap : Nat) (ad : Addr) (sLen sCap : Nat)
    (hd : a.eval d = .slice (some ⟨g, off, none⟩) dLen dCap) (hs : a.eval s = .slice (some ad) sLen sCap) (cs : List Value) (q : Nat) (hq : q = Nat.min sLen dLen) (hn : cs.length = q * k)
    (hsrc : ∀ j v, cs[j]? = some v → w.cell? (ad.add j) = some v) (hfit : off + cs.length ≤ n * k) (h1 : ∀ v ∈ cs, v.oneCell' = true)
    (h : ∀ w', w'.ownsRow base e k (.slice (some ⟨g, 0, none⟩) n cap) n (setsFrom xs off cs) → Below base w w' → K (a.put o.dst (.int .i64 q)) w') :
    if Region.wanted o (yielded ops a.tmps) = true then Oper.wp P o a w K Q else E := by
  have hw : Region.wanted o (yielded ops a.tmps) = true := by simp [Region.wanted, hgd]
  rw [if_pos hw]
  exact upon_copyR d s dT sT ho hu hi hk hown off dLen dCap ad sLen sCap hd hs cs q hq hn hsrc hfit h1 h
/-- the same at the head of a list of operations -/
theorem wpList_copyR {rest : List Oper} {Q : Exit → Act → World → Prop} (hgd : o.guard = none) (d s : Operand) (dT sT : TypeId)
    (ho : o.op = .call { callee := .builtin .copy, args := #[d, s], argTypes := #[dT, sT] }) {base : Nat} {e : TypeId} {i : TypeInfo} {k : Nat} (hu : P.underlying dT = some (.slice e)) (hi : P.info? e = some i) (hk : i.size = k)
    {g n cap : Nat} {xs : List Value} (hown : w.ownsRow base e k (.slice (some ⟨g, 0, none⟩) n cap) n xs) (off dLen dCap : Nat) (ad : Addr) (sLen sCap : Nat)
    (hd : a.eval d = .slice (some ⟨g, off, none⟩) dLen dCap) (hs : a.eval s = .slice (some ad) sLen sCap) (cs : List Value) (q : Nat) (hq : q = Nat.min sLen dLen) (hn : cs.length = q * k)
    (hsrc : ∀ j v, cs[j]? = some v → w.cell? (ad.add j) = some v) (hfit : off + cs.length ≤ n * k) (h1 : ∀ v ∈ cs, v.oneCell' = true)
    (h : ∀ w', w'.ownsRow base e k (.slice (some ⟨g, 0, none⟩) n cap) n (setsFrom xs off cs) → Below base w w' → wpList P ops Q rest (a.put o.dst (.int .i64 q)) w') :
    wpList P ops Q (o :: rest) a w := by
  refine wpList_plain hgd fun K hK => ?_
  exact upon_copyR d s dT sT ho hu hi hk hown off dLen dCap ad sLen sCap hd hs cs q hq hn hsrc hfit h1 (fun w' h1 h2 => hK _ _ (h w' h1 h2))
end
theorem cells_add {w : World} {B off : Nat} {cs : List Value} (h : CellsAt w B off cs) : ∀ j v, cs[j]? = some v → w.cell? ((⟨B, off, none⟩ : Addr).add j) = some v := fun j v hv => by
  have hadd : (⟨B, off, none⟩ : Addr).add j = ⟨B, off + j, none⟩ := by unfold Addr.add; split <;> simp_all
  rw [hadd]
  exact h.2 j v hv
/-- q times the same record -/
def rep (cs : List Value) (q : Nat) : List Value := flatR (fun _ => cs) q
theorem rep_len {k : Nat} {cs : List Value} (h : cs.length = k) (q : Nat) : (rep cs q).length = q * k := flatR_len k _ q fun _ _ => h
theorem rep_cells {k : Nat} {cs : List Value} (h : cs.length = k) (q : Nat) : RecCells k q (rep cs q) (fun _ => cs) := flatR_cells k _ q fun _ _ => h
/-- q records more -/
theorem cells_more {k n m q : Nat} {xs cs : List Value} (h : RecCells k m xs (fun _ => cs)) (hl : xs.length = n * k) (hcl : cs.length = k) (hmq : m + q ≤ n) :
    RecCells k (m + q) (setsFrom xs (m * k) (rep cs q)) (fun _ => cs) := by
  have hmul : m * k + q * k ≤ n * k := by rw [← Nat.add_mul]; exact Nat.mul_le_mul_right k hmq
  have hrl := rep_len hcl q
  intro i hi j u hu
  have hj : j < k := by rw [← hcl]; exact (List.getElem?_eq_some_iff.1 hu).1
  by_cases him : i < m
  · rw [setsFrom_out]
    · exact h i him j u hu
    · left
      have := Nat.mul_le_mul_right k (show i + 1 ≤ m by omega)
      rw [Nat.succ_mul] at this
      omega
  · obtain ⟨d, rfl⟩ : ∃ d, i = m + d := ⟨i - m, by omega⟩
    rw [show (m + d) * k + j = m * k + (d * k + j) by rw [Nat.add_mul]; omega]
    exact setsFrom_in _ _ _ _ u (by omega) (rep_cells hcl q d (by omega) j u hu)
theorem first_cells {k : Nat} {xs cs : List Value} (hcl : cs.length = k) (hl : k ≤ xs.length) : RecCells k 1 (setsFrom xs 0 cs) (fun _ => cs) := by
  intro i hi j u hu
  obtain rfl : i = 0 := by omega
  rw [Nat.zero_mul]
  exact setsFrom_in cs xs 0 j u (by omega) hu
theorem rep_one {cs : List Value} {q : Nat} {v : Value} (h1 : ∀ v ∈ cs, v.oneCell' = true) (h : v ∈ rep cs q) : v.oneCell' = true := by
  unfold rep flatR at h
  rw [List.mem_flatMap] at h
  obtain ⟨_, _, h⟩ := h
  exact h1 v h
/-- what lies at the head of a row of equal records -/
theorem rep_at {w : World} {base g n cap m q k : Nat} {e : TypeId} {xs cs : List Value} (ho : w.ownsRow base e k (.slice (some ⟨g, 0, none⟩) n cap) n xs) (h : RecCells k m xs (fun _ => cs)) (hcl : cs.length = k) (hk : 0 < k) (hq : q ≤ m) (hm : m ≤ n) :
    ∀ j v, (rep cs q)[j]? = some v → w.cell? ((⟨g, 0, none⟩ : Addr).add j) = some v := by
  intro j v hv
  have hadd : (⟨g, 0, none⟩ : Addr).add j = ⟨g, j, none⟩ := by unfold Addr.add; split <;> simp_all
  obtain ⟨h1, h2⟩ := flatR_get k _ q (fun _ _ => hcl) hk j v hv
  have h3 := h (j / k) (by omega) (j % k) v h2
  rw [Nat.mul_comm, Nat.div_add_mod] at h3
  have hlen := ho.1
  have hj : j < xs.length := (List.getElem?_eq_some_iff.1 h3).1
  rw [hadd, ho.cellAt _ (by omega)]
  exact h3
end Go.Proofs.Ytoingkchjiipgaa
