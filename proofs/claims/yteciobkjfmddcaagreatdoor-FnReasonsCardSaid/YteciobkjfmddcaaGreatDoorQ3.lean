/-
  Packed: BoxF, Tables2, Await, Tables3, Keys, RulesOk, Tables4, Marks, Teams, Field, Clubs, BookOk, BookVals, RankFacts.
-/
import Derived.Deep.RegionHeld3
import Derived.Test.YteciobkjfmddcaaGreatDoorProg
import Derived.WalkKit
import Derived.BigQuiet
import Derived.Deep.QuietTactic
import Derived.Lib.Hide
import Derived.Outline
import Derived.Test.YteciobkjfmddcaaGreatDoorQ1
import Derived.Test.YteciobkjfmddcaaGreatDoorQ2
set_option linter.unusedVariables false
namespace Go.Proofs.YteciobkjfmddcaaGreatDoor
open Go.RowKit

def BoxF (w : World) (B : Nat) (cs : List Value) : Prop := B < w.heap.size ∧ ∀ j v, cs[j]? = some v → w.cell? ⟨B, j, none⟩ = some v ∧ w.frozen? ⟨B, j, none⟩ = false
theorem BoxF.made {u w2 : World} {cs : Array Value} {t : TypeId} {B : Nat} (h : Below (u.alloc (.cells cs t)).heap.size (u.alloc (.cells cs t)) w2) (hB : u.heap.size = B) : BoxF w2 B cs.toList :=
  ⟨(BoxN.made h hB).1, fun j v hv => ⟨(BoxN.made h hB).2 j v hv, BoxN.free h hB j⟩⟩
theorem BoxF.box {w : World} {B : Nat} {cs : List Value} (h : BoxF w B cs) : BoxN w B cs := ⟨h.1, fun j v hv => (h.2 j v hv).1⟩
theorem BoxF.below {w w' : World} {B : Nat} {cs : List Value} (h : BoxF w B cs) (hb : Below w.heap.size w w') : BoxF w' B cs :=
  ⟨Nat.lt_of_lt_of_le h.1 hb.size, fun j v hv => ⟨(hb.cell (p := ⟨B, j, none⟩) h.1).trans (h.2 j v hv).1, (hb.frozen (p := ⟨B, j, none⟩) h.1).trans (h.2 j v hv).2⟩⟩
theorem BoxF.set {w : World} {B : Nat} {cs : List Value} (h : BoxF w B cs) (j : Nat) (u : Value) (hj : j < cs.length) : BoxF (w.setCell ⟨B, j, none⟩ u) B (cs.set j u) := by
  refine ⟨by simpa [World.setCell] using h.1, fun i v hv => ?_⟩
  have hf : ∀ (i : Nat) (v0 : Value), cs[i]? = some v0 → (w.setCell ⟨B, j, none⟩ u).frozen? ⟨B, i, none⟩ = false := fun i v0 h0 => (World.frozen?_setCell _ _ _ _).trans (h.2 i v0 h0).2
  by_cases e : i = j
  · subst e
    obtain ⟨v0, h0⟩ : ∃ v0, cs[i]? = some v0 := ⟨_, List.getElem?_eq_getElem hj⟩
    rw [List.getElem?_set_self hj] at hv
    cases hv
    refine ⟨?_, hf i v0 h0⟩
    rw [World.cell?_setCell_same' _ _ _ (by rw [(h.2 i v0 h0).1]; rfl)]
  · rw [List.getElem?_set_ne (Ne.symm e)] at hv
    refine ⟨?_, hf i v hv⟩
    rw [World.cell?_setCell_other _ _ _ _ (by intro e2; simp only [Addr.mk.injEq] at e2; omega)]
    exact (h.2 i v hv).1
theorem BoxF.other {w : World} {B D : Nat} {cs : List Value} (h : BoxF w B cs) (j : Nat) (u : Value) (hD : B ≠ D) : BoxF (w.setCell ⟨D, j, none⟩ u) B cs := by
  refine ⟨by simpa [World.setCell] using h.1, fun i v hv => ⟨?_, (World.frozen?_setCell _ _ _ _).trans (h.2 i v hv).2⟩⟩
  rw [World.cell?_setCell_other _ _ _ _ (by intro e2; simp only [Addr.mk.injEq] at e2; omega)]
  exact (h.2 i v hv).1
theorem BoxN.elsewhere {w : World} {B D : Nat} {cs : List Value} (h : BoxN w B cs) (j : Nat) (u : Value) (hD : B ≠ D) : BoxN (w.setCell ⟨D, j, none⟩ u) B cs := by
  refine ⟨by simpa [World.setCell] using h.1, fun i v hv => ?_⟩
  rw [World.cell?_setCell_other _ _ _ _ (by intro e2; simp only [Addr.mk.injEq] at e2; omega)]
  exact h.2 i v hv
end Go.Proofs.YteciobkjfmddcaaGreatDoor
set_option linter.unusedVariables false
namespace Go.Proofs.YteciobkjfmddcaaGreatDoor
open Go.RowKit
theorem boolT {R : Bool} {p : Prop} (h : R = true ↔ p) (hp : p) : R = true := h.2 hp
theorem boolF {R : Bool} {p : Prop} (h : R = true ↔ p) (hp : ¬ p) : R = false := by
  cases R with
  | false => rfl
  | true => exact absurd (h.1 rfl) hp

def sumR (g : Nat → RowD) : Nat → RowD
  | 0 => zeroR
  | k + 1 => addW (sumR g k) (g k)
def balR (x : RowD) : Prop := wrap64 (wrap64 (x.wins + x.draws) + x.losses) = x.played
def balP (n : Nat) (g : Nat → RowD) : Prop := (∀ i, i < n → balR (g i)) ∧ (sumR g n).wins = (sumR g n).losses ∧ (sumR g n).draws.tmod 2 = 0 ∧ (sumR g n).scored = (sumR g n).against
theorem BoxF.row7 {w : World} {B : Nat} {x y : RowD} (h : BoxF w B x.cells) :
    BoxF (((((((w.setCell ⟨B, 0, none⟩ (Value.int .i64 y.played)).setCell ⟨B, 1, none⟩ (Value.int .i64 y.wins)).setCell ⟨B, 2, none⟩ (Value.int .i64 y.draws)).setCell ⟨B, 3, none⟩ (Value.int .i64 y.losses)).setCell ⟨B, 4, none⟩ (Value.int .i64 y.scored)).setCell ⟨B, 5, none⟩ (Value.int .i64 y.against)).setCell ⟨B, 6, none⟩ (Value.int .i64 y.points)) B y.cells := by
  have h0 := h.set 0 (Value.int .i64 y.played) (by simp [RowD.cells])
  have h1 := h0.set 1 (Value.int .i64 y.wins) (by simp [RowD.cells])
  have h2 := h1.set 2 (Value.int .i64 y.draws) (by simp [RowD.cells])
  have h3 := h2.set 3 (Value.int .i64 y.losses) (by simp [RowD.cells])
  have h4 := h3.set 4 (Value.int .i64 y.scored) (by simp [RowD.cells])
  have h5 := h4.set 5 (Value.int .i64 y.against) (by simp [RowD.cells])
  have h6 := h5.set 6 (Value.int .i64 y.points) (by simp [RowD.cells])
  exact h6
theorem boxF_row {w : World} {B : Nat} {x : RowD} (h : BoxF w B x.cells) : (w.cell? ⟨B, 0, none⟩ = some (.int .i64 x.played) ∧ w.frozen? ⟨B, 0, none⟩ = false) ∧ (w.cell? ⟨B, 1, none⟩ = some (.int .i64 x.wins) ∧ w.frozen? ⟨B, 1, none⟩ = false) ∧ (w.cell? ⟨B, 2, none⟩ = some (.int .i64 x.draws) ∧ w.frozen? ⟨B, 2, none⟩ = false) ∧ (w.cell? ⟨B, 3, none⟩ = some (.int .i64 x.losses) ∧ w.frozen? ⟨B, 3, none⟩ = false) ∧ (w.cell? ⟨B, 4, none⟩ = some (.int .i64 x.scored) ∧ w.frozen? ⟨B, 4, none⟩ = false) ∧ (w.cell? ⟨B, 5, none⟩ = some (.int .i64 x.against) ∧ w.frozen? ⟨B, 5, none⟩ = false) ∧ (w.cell? ⟨B, 6, none⟩ = some (.int .i64 x.points) ∧ w.frozen? ⟨B, 6, none⟩ = false) := ⟨h.2 0 _ rfl, h.2 1 _ rfl, h.2 2 _ rfl, h.2 3 _ rfl, h.2 4 _ rfl, h.2 5 _ rfl, h.2 6 _ rfl⟩

theorem below_row7 {a w : World} {B0 B : Nat} {y : RowD} (h : Below B0 a w) (hB : B0 ≤ B) :
    Below B0 a (((((((w.setCell ⟨B, 0, none⟩ (Value.int .i64 y.played)).setCell ⟨B, 1, none⟩ (Value.int .i64 y.wins)).setCell ⟨B, 2, none⟩ (Value.int .i64 y.draws)).setCell ⟨B, 3, none⟩ (Value.int .i64 y.losses)).setCell ⟨B, 4, none⟩ (Value.int .i64 y.scored)).setCell ⟨B, 5, none⟩ (Value.int .i64 y.against)).setCell ⟨B, 6, none⟩ (Value.int .i64 y.points)) := by
  exact (Below.setCell (Below.setCell (Below.setCell (Below.setCell (Below.setCell (Below.setCell (Below.setCell h (p := ⟨B, 0, none⟩) hB (Value.int .i64 y.played)) (p := ⟨B, 1, none⟩) hB (Value.int .i64 y.wins)) (p := ⟨B, 2, none⟩) hB (Value.int .i64 y.draws)) (p := ⟨B, 3, none⟩) hB (Value.int .i64 y.losses)) (p := ⟨B, 4, none⟩) hB (Value.int .i64 y.scored)) (p := ⟨B, 5, none⟩) hB (Value.int .i64 y.against)) (p := ⟨B, 6, none⟩) hB (Value.int .i64 y.points))
end Go.Proofs.YteciobkjfmddcaaGreatDoor
set_option linter.unusedVariables false
namespace Go.Proofs.YteciobkjfmddcaaGreatDoor
section
variable {P : Program} {ops : Array Oper} {Q : Exit → Act → World → Prop} {md : Region.Mode} {S : Array Bool → World → Prop}

def Await (P : Program) (md : Region.Mode) (ops : Array Oper) (Q : Exit → Act → World → Prop) (S : Array Bool → World → Prop) : Nat → Array Bool → Act → World → Prop
  | 0, l, a, w => Region.ready md ops l = [] ∧ Q .normal a w
  | n + 1, l, a, w => (Region.ready md ops l = [] → Q .normal a w) ∧
      ∀ i ∈ Region.ready md ops l, wpOp P ops Q i (fun a' w' => S (l.setIfInBounds i true) w' ∧ Await P md ops Q S n (l.setIfInBounds i true) a' w') a w
theorem Await.any : ∀ (n : Nat) (l : Array Bool) (a : Act) (w : World), Await P md ops Q S n l a w → wpAny P md ops Q n l a w
  | 0, _, _, _, h => h
  | n + 1, _, _, _, h => ⟨h.1, fun i hi => wpOp_mono (fun a' w' h' => Await.any n _ a' w' h'.2) (h.2 i hi)⟩
def Until (st : Nat) (F : World → Prop) (l : Array Bool) (w : World) : Prop := l.getD st true = false → F w
theorem getD_set {l : Array Bool} {j k : Nat} (h : (l.setIfInBounds j true).getD k true = false) : l.getD k true = false := by
  by_cases e : j = k
  · subst e
    by_cases hj : j < l.size
    · rw [Array.getD_eq_getD_getElem?, Array.getElem?_setIfInBounds_self_of_lt hj] at h; cases h
    · rw [Array.setIfInBounds_eq_of_size_le (by omega)] at h; exact h
  · rw [getD_set_ne true e] at h; exact h
def waitsFor (md : Region.Mode) (ops : Array Oper) (j i : Nat) : Bool := match ops[j]? with
  | some o => o.after.any fun e => Region.binds md e && e.on == i
  | none => false
theorem waits_not_ready {j i : Nat} {l : Array Bool} (h : waitsFor md ops j i = true) (hi : l.getD i false = false) : j ∉ Region.ready md ops l := fun hj => by
  obtain ⟨_, oj, hoj, hall⟩ := mem_ready.1 hj
  unfold waitsFor at h
  rw [hoj] at h
  simp only [Array.any_eq_true', Bool.and_eq_true, beq_iff_eq] at h
  obtain ⟨e, he, hb, heq⟩ := h
  have := hall e he hb
  rw [heq] at this
  rw [hi] at this
  cases this
theorem Await.first {st p : Nat} {F : World → Prop} {G : World → Prop} {i : Nat} {oi : Oper} {v : Value} (hist : i ≠ st) (hi : ops[i]? = some oi) (hsel : Region.noSelect ops = true)
    (hQ : ∀ c a w, Q (.panic c) (a.put oi.dst v) w → Q (.panic c) a w) (hFG : (∀ w, F w → G w) ∧ waitsFor md ops p i = true ∧ waitsFor md ops st p = true ∧ p < ops.size ∧ i < ops.size ∨ ∀ w, G w) :
    ∀ (n : Nat) (l : Array Bool) (a : Act) (w : World), l.size = ops.size →
      (∀ j oj, ops[j]? = some oj → j ≠ i → l.getD j true = false → (∀ e ∈ oj.after, Region.binds md e = true → e.on ≠ i) → oi.apart ops oj = true) →
      i ∈ Region.ready md ops l → YieldsIf P ops G oi v a → Until st F l w → ((∀ w, G w) ∨ (l.getD p true = false ∧ l.getD st true = false)) →
      Await P md ops Q (Until st F) n (l.setIfInBounds i true) (a.put oi.dst v) w → Await P md ops Q (Until st F) (n + 1) l a w := by
  have hsel' := Region.noSelect_spec hsel
  have hG : ∀ (l : Array Bool) (w : World), Until st F l w → ((∀ w, G w) ∨ (l.getD p true = false ∧ l.getD st true = false)) → G w := fun l w hU hp => by
    rcases hFG with ⟨hh, _⟩ | hh
    · rcases hp with hp | hp
      · exact hp w
      · exact hh w (hU hp.2)
    · exact hh w
  intro n
  induction n with
  | zero =>
    intro l a w _ _ hr hy hS hp H
    refine ⟨fun h => (by rw [h] at hr; cases hr), fun j hj => ?_⟩
    by_cases hji : j = i
    · subst hji; exact hy.wpOp hi (hG l w hS hp) ⟨fun h => hS (getD_set h), H⟩
    · have := ready_mono hj hji
      rw [H.1] at this
      cases this
  | succ n ih =>
    intro l a w hsz hfree hr hy hS hp H
    refine ⟨fun h => (by rw [h] at hr; cases hr), fun j hj => ?_⟩
    by_cases hji : j = i
    · subst hji; exact hy.wpOp hi (hG l w hS hp) ⟨fun h => hS (getD_set h), H⟩
    · have h1 := H.2 j (ready_mono hj hji)
      obtain ⟨hjun, oj, hoj, hall⟩ := mem_ready.1 hj
      have hil := (mem_ready.1 hr).1
      have hnot : ∀ e ∈ oj.after, Region.binds md e = true → e.on ≠ i := fun e he hb heq => by
        have h1 := hall e he hb
        have h0 := hil
        rw [heq] at h1
        rcases Nat.lt_or_ge i l.size with h' | h'
        · simp [h'] at h0 h1; rw [h0] at h1; cases h1
        · simp [Array.getElem?_eq_none h'] at h1
      have h2 := wpOp_putIf hoj (hfree j oj hoj hji hjun hnot) (fun cs b => hsel' i oi cs b hi) (fun cs b => hsel' j oj cs b hoj) hQ hy h1
      have hfree' : ∀ k ok, ops[k]? = some ok → k ≠ i → (l.setIfInBounds j true).getD k true = false → (∀ e ∈ ok.after, Region.binds md e = true → e.on ≠ i) → oi.apart ops ok = true := fun k ok hk hki hun hno => by
        refine hfree k ok hk hki ?_ hno
        by_cases hjk : j = k
        · subst hjk; exact hjun
        · rw [getD_set_ne true hjk] at hun; exact hun
      have hp' : (∀ w, G w) ∨ ((l.setIfInBounds j true).getD p true = false ∧ (l.setIfInBounds j true).getD st true = false) := by
        rcases hp with hp | ⟨hp1, hp2⟩
        · exact .inl hp
        · rcases hFG with ⟨_, hpi, hsp, hpl, hil2⟩ | hh
          · have toF : ∀ k, k < ops.size → l.getD k true = false → l.getD k false = false := fun k hk h => by
              rw [← h]; simp [Array.getD, hsz, hk]
            have n1 : j ≠ p := fun e => waits_not_ready hpi (toF i hil2 hil) (e ▸ hj)
            have n2 : j ≠ st := fun e => waits_not_ready hsp (toF p hpl hp1) (e ▸ hj)
            exact .inr ⟨by rw [getD_set_ne true n1]; exact hp1, by rw [getD_set_ne true n2]; exact hp2⟩
          · exact .inl hh
      refine wpOp_mono (fun a' w' h3 => ?_) h2
      obtain ⟨hy', hU, hA⟩ := h3
      have hr' := ready_mono hr (Ne.symm hji)
      have hU' : Until st F (l.setIfInBounds j true) w' := fun hl => hU (by
        rw [Array.setIfInBounds_comm _ _ (Ne.symm hji), getD_set_ne true hist]; exact hl)
      refine ⟨hU', ih (l.setIfInBounds j true) a' w' (by simpa using hsz) hfree' hr' hy' hU' hp' ?_⟩
      rw [Array.setIfInBounds_comm _ _ hji]
      exact hA
theorem Await.take {st p i n : Nat} {F : World → Prop} {oi : Oper} {v : Value} {l : Array Bool} {a : Act} {w : World} (hi : ops[i]? = some oi) (hs : Region.noSelect ops = true) (hf : Region.free md ops l i = true) (hr : (Region.ready md ops l).contains i = true)
    (hw : (waitsFor md ops p i && waitsFor md ops st p && decide (p < ops.size) && decide (i < ops.size) && decide (i ≠ st) && decide (l.size = ops.size) && !l.getD p true && !l.getD st true) = true)
    (hQ : ∀ c a w, Q (.panic c) (a.put oi.dst v) w → Q (.panic c) a w) (hy : YieldsIf P ops F oi v a) (hS : Until st F l w)
    (h : Await P md ops Q (Until st F) n (l.setIfInBounds i true) (a.put oi.dst v) w) : Await P md ops Q (Until st F) (n + 1) l a w := by
  simp only [Bool.and_eq_true, decide_eq_true_eq, Bool.not_eq_true'] at hw
  obtain ⟨⟨⟨⟨⟨⟨⟨h1, h2⟩, h3⟩, h4⟩, h5⟩, h6⟩, h7⟩, h8⟩ := hw
  exact Await.first (p := p) (G := F) h5 hi hs hQ (.inl ⟨fun _ h => h, h1, h2, h3, h4⟩) n l a w h6 (Region.free_spec hi hf) (by simpa using hr) hy hS (.inr ⟨h7, h8⟩) h
theorem Await.pure {st i n : Nat} {F : World → Prop} {oi : Oper} {v : Value} {l : Array Bool} {a : Act} {w : World} (hi : ops[i]? = some oi) (hs : Region.noSelect ops = true) (hf : Region.free md ops l i = true) (hr : (Region.ready md ops l).contains i = true)
    (hw : (decide (i ≠ st) && decide (l.size = ops.size)) = true)
    (hQ : ∀ c a w, Q (.panic c) (a.put oi.dst v) w → Q (.panic c) a w) (hy : YieldsIf P ops (fun _ => True) oi v a) (hS : Until st F l w)
    (h : Await P md ops Q (Until st F) n (l.setIfInBounds i true) (a.put oi.dst v) w) : Await P md ops Q (Until st F) (n + 1) l a w := by
  simp only [Bool.and_eq_true, decide_eq_true_eq] at hw
  exact Await.first (p := 0) (G := fun _ => True) hw.1 hi hs hQ (.inr fun _ => trivial) n l a w hw.2 (Region.free_spec hi hf) (by simpa using hr) hy hS (.inl fun _ => trivial) h
def chainW (md : Region.Mode) (ops : Array Oper) (st : Nat) : Nat → List Nat → Bool
  | i, [] => waitsFor md ops st i
  | i, p :: ps => waitsFor md ops p i && chainW md ops st p ps
theorem chain_not_ready {st j : Nat} {l : Array Bool} (hj : j ∈ Region.ready md ops l) : ∀ (ps : List Nat) (i : Nat), chainW md ops st i ps = true → l.getD i false = false → (∀ k ∈ ps, l.getD k false = false) → j ≠ st ∧ ∀ k ∈ ps, j ≠ k
  | [], i, h, hi, _ => ⟨fun e => waits_not_ready h hi (e ▸ hj), fun k hk => by cases hk⟩
  | p :: ps, i, h, hi, hp => by
    unfold chainW at h
    simp only [Bool.and_eq_true] at h
    have hpu := hp p (by simp)
    have h2 := chain_not_ready hj ps p h.2 hpu fun k hk => hp k (by simp [hk])
    refine ⟨h2.1, fun k hk => ?_⟩
    rcases List.mem_cons.1 hk with rfl | hk
    · exact fun e => waits_not_ready h.1 hi (e ▸ hj)
    · exact h2.2 k hk
theorem Await.firsts {st : Nat} {ps : List Nat} {F : World → Prop} {i : Nat} {oi : Oper} {v : Value} (hist : i ≠ st) (hi : ops[i]? = some oi) (hsel : Region.noSelect ops = true)
    (hQ : ∀ c a w, Q (.panic c) (a.put oi.dst v) w → Q (.panic c) a w) (hch : chainW md ops st i ps = true) (hpl : ∀ k ∈ ps, k < ops.size) (hil2 : i < ops.size) :
    ∀ (n : Nat) (l : Array Bool) (a : Act) (w : World), l.size = ops.size →
      (∀ j oj, ops[j]? = some oj → j ≠ i → l.getD j true = false → (∀ e ∈ oj.after, Region.binds md e = true → e.on ≠ i) → oi.apart ops oj = true) →
      i ∈ Region.ready md ops l → YieldsIf P ops F oi v a → Until st F l w → ((∀ k ∈ ps, l.getD k true = false) ∧ l.getD st true = false) →
      Await P md ops Q (Until st F) n (l.setIfInBounds i true) (a.put oi.dst v) w → Await P md ops Q (Until st F) (n + 1) l a w := by
  have hsel' := Region.noSelect_spec hsel
  intro n
  induction n with
  | zero =>
    intro l a w _ _ hr hy hS hp H
    refine ⟨fun h => (by rw [h] at hr; cases hr), fun j hj => ?_⟩
    by_cases hji : j = i
    · subst hji; exact hy.wpOp hi (hS hp.2) ⟨fun h => hS (getD_set h), H⟩
    · have := ready_mono hj hji
      rw [H.1] at this
      cases this
  | succ n ih =>
    intro l a w hsz hfree hr hy hS hp H
    refine ⟨fun h => (by rw [h] at hr; cases hr), fun j hj => ?_⟩
    by_cases hji : j = i
    · subst hji; exact hy.wpOp hi (hS hp.2) ⟨fun h => hS (getD_set h), H⟩
    · have h1 := H.2 j (ready_mono hj hji)
      obtain ⟨hjun, oj, hoj, hall⟩ := mem_ready.1 hj
      have hil := (mem_ready.1 hr).1
      have hnot : ∀ e ∈ oj.after, Region.binds md e = true → e.on ≠ i := fun e he hb heq => by
        have h1 := hall e he hb
        have h0 := hil
        rw [heq] at h1
        rcases Nat.lt_or_ge i l.size with h' | h'
        · simp [h'] at h0 h1; rw [h0] at h1; cases h1
        · simp [Array.getElem?_eq_none h'] at h1
      have h2 := wpOp_putIf hoj (hfree j oj hoj hji hjun hnot) (fun cs b => hsel' i oi cs b hi) (fun cs b => hsel' j oj cs b hoj) hQ hy h1
      have hfree' : ∀ k ok, ops[k]? = some ok → k ≠ i → (l.setIfInBounds j true).getD k true = false → (∀ e ∈ ok.after, Region.binds md e = true → e.on ≠ i) → oi.apart ops ok = true := fun k ok hk hki hun hno => by
        refine hfree k ok hk hki ?_ hno
        by_cases hjk : j = k
        · subst hjk; exact hjun
        · rw [getD_set_ne true hjk] at hun; exact hun
      have toF : ∀ k, k < ops.size → l.getD k true = false → l.getD k false = false := fun k hk h => by
        rw [← h]; simp [Array.getD, hsz, hk]
      have hnr := chain_not_ready hj ps i hch (toF i hil2 hil) fun k hk => toF k (hpl k hk) (hp.1 k hk)
      have hp' : (∀ k ∈ ps, (l.setIfInBounds j true).getD k true = false) ∧ (l.setIfInBounds j true).getD st true = false :=
        ⟨fun k hk => by rw [getD_set_ne true (hnr.2 k hk)]; exact hp.1 k hk, by rw [getD_set_ne true hnr.1]; exact hp.2⟩
      refine wpOp_mono (fun a' w' h3 => ?_) h2
      obtain ⟨hy', hU, hA⟩ := h3
      have hr' := ready_mono hr (Ne.symm hji)
      have hU' : Until st F (l.setIfInBounds j true) w' := fun hl => hU (by
        rw [Array.setIfInBounds_comm _ _ (Ne.symm hji), getD_set_ne true hist]; exact hl)
      refine ⟨hU', ih (l.setIfInBounds j true) a' w' (by simpa using hsz) hfree' hr' hy' hU' hp' ?_⟩
      rw [Array.setIfInBounds_comm _ _ hji]
      exact hA
theorem Await.takes {st i n : Nat} (ps : List Nat) {F : World → Prop} {oi : Oper} {v : Value} {l : Array Bool} {a : Act} {w : World} (hi : ops[i]? = some oi) (hs : Region.noSelect ops = true) (hf : Region.free md ops l i = true) (hr : (Region.ready md ops l).contains i = true)
    (hw : (chainW md ops st i ps && ps.all (fun k => decide (k < ops.size) && !l.getD k true) && decide (i < ops.size) && decide (i ≠ st) && decide (l.size = ops.size) && !l.getD st true) = true)
    (hQ : ∀ c a w, Q (.panic c) (a.put oi.dst v) w → Q (.panic c) a w) (hy : YieldsIf P ops F oi v a) (hS : Until st F l w)
    (h : Await P md ops Q (Until st F) n (l.setIfInBounds i true) (a.put oi.dst v) w) : Await P md ops Q (Until st F) (n + 1) l a w := by
  simp only [Bool.and_eq_true, decide_eq_true_eq, Bool.not_eq_true', List.all_eq_true] at hw
  obtain ⟨⟨⟨⟨⟨h1, h2⟩, h4⟩, h5⟩, h6⟩, h8⟩ := hw
  exact Await.firsts (ps := ps) h5 hi hs hQ h1 (fun k hk => (h2 k hk).1) h4 n l a w h6 (Region.free_spec hi hf) (by simpa using hr) hy hS ⟨fun k hk => (h2 k hk).2, h8⟩ h
theorem Await.step {i n : Nat} {o : Oper} {l : Array Bool} {a : Act} {w : World} (hr : Region.ready md ops l = [i]) (ho : ops[i]? = some o)
    (h : ∀ K' : Act → World → Prop, Shut (∀ a w, S (l.setIfInBounds i true) w → (S (l.setIfInBounds i true) w → Await P md ops Q S n (l.setIfInBounds i true) a w) → K' a w) →
      if Region.wanted o (yielded ops a.tmps) = true then Oper.wp P o a w K' Q else K' (a.put o.dst undef) w) : Await P md ops Q S (n + 1) l a w := by
  refine ⟨fun h0 => (by rw [hr] at h0; cases h0), fun j hj => ?_⟩
  rw [hr] at hj
  obtain rfl := List.mem_singleton.1 hj
  exact wpOp_step ho (fun K' hK => h K' (fun a w hS hW => hK a w ⟨hS, hW hS⟩))
theorem Await.done {l : Array Bool} {a : Act} {w : World} (hr : Region.ready md ops l = []) (h : Q .normal a w) : ∀ n, Await P md ops Q S n l a w
  | 0 => ⟨hr, h⟩
  | _ + 1 => ⟨fun _ => h, by rw [hr]; simp⟩
theorem Await.begin {id : Nat} {a : Act} {w : World} (hm : P.follows .mixedOrders = true) (hS : S (Array.replicate ops.size false) w.drew)
    (h : S (Array.replicate ops.size false) w.drew → Await P .any ops Q S ops.size (Array.replicate ops.size false) a w.drew) : (Code.region id ops true).wp P Q a w :=
  wp_region_any hm (Await.any _ _ _ _ (h hS))
theorem Until.over {st : Nat} {F : World → Prop} {l : Array Bool} {w : World} (h : l.getD st true = true) : Until st F l w := fun h' => by rw [h] at h'; cases h'
theorem Until.of {st : Nat} {F : World → Prop} {l : Array Bool} {w : World} (h : F w) : Until st F l w := fun _ => h
end
end Go.Proofs.YteciobkjfmddcaaGreatDoor
set_option linter.unusedVariables false
namespace Go.Proofs.YteciobkjfmddcaaGreatDoor
open Go.RowKit

def homeR (win draw loss : Int) (x : GameD) : RowD :=
  if outcomeD x = 1 then ⟨1, 1, 0, 0, (goalsD x).1, (goalsD x).2.1, win⟩ else if outcomeD x = 2 then ⟨1, 0, 1, 0, (goalsD x).1, (goalsD x).2.1, draw⟩ else ⟨1, 0, 0, 1, (goalsD x).1, (goalsD x).2.1, loss⟩
def awayR (win draw loss : Int) (x : GameD) : RowD :=
  if outcomeD x = 1 then ⟨1, 0, 0, 1, (goalsD x).2.1, (goalsD x).1, loss⟩ else if outcomeD x = 2 then ⟨1, 0, 1, 0, (goalsD x).2.1, (goalsD x).1, draw⟩ else ⟨1, 1, 0, 0, (goalsD x).2.1, (goalsD x).1, win⟩
def putR (r : Nat → RowD) (t : Nat) (y : RowD) : Nat → RowD := fun i => if i = t then y else r i
def addG (win draw loss : Int) (r : Nat → RowD) (x : GameD) : Nat → RowD :=
  if (goalsD x).2.2 = true then
    putR (putR r x.home.toNat (addW (r x.home.toNat) (homeR win draw loss x))) x.away.toNat (addW (putR r x.home.toNat (addW (r x.home.toNat) (homeR win draw loss x)) x.away.toNat) (awayR win draw loss x))
  else r
theorem outcome_cases (x : GameD) (h : (goalsD x).2.2 = true) : outcomeD x = 1 ∨ outcomeD x = 2 ∨ outcomeD x = 3 := by
  unfold outcomeD
  rw [if_pos h]
  split
  · exact .inl rfl
  · split
    · exact .inr (.inl rfl)
    · exact .inr (.inr rfl)
theorem homeR_is (win draw loss : Int) (x : GameD) : (outcomeD x = 1 → homeR win draw loss x = ⟨1, 1, 0, 0, (goalsD x).1, (goalsD x).2.1, win⟩) ∧ (outcomeD x = 2 → homeR win draw loss x = ⟨1, 0, 1, 0, (goalsD x).1, (goalsD x).2.1, draw⟩) ∧ (outcomeD x = 3 → homeR win draw loss x = ⟨1, 0, 0, 1, (goalsD x).1, (goalsD x).2.1, loss⟩) := by
  unfold homeR
  exact ⟨fun h => by rw [if_pos h], fun h => by rw [if_neg (by omega), if_pos h], fun h => by rw [if_neg (by omega), if_neg (by omega)]⟩
theorem awayR_is (win draw loss : Int) (x : GameD) : (outcomeD x = 1 → awayR win draw loss x = ⟨1, 0, 0, 1, (goalsD x).2.1, (goalsD x).1, loss⟩) ∧ (outcomeD x = 2 → awayR win draw loss x = ⟨1, 0, 1, 0, (goalsD x).2.1, (goalsD x).1, draw⟩) ∧ (outcomeD x = 3 → awayR win draw loss x = ⟨1, 1, 0, 0, (goalsD x).2.1, (goalsD x).1, win⟩) := by
  unfold awayR
  exact ⟨fun h => by rw [if_pos h], fun h => by rw [if_neg (by omega), if_pos h], fun h => by rw [if_neg (by omega), if_neg (by omega)]⟩
theorem cells_put {n t : Nat} {xs : List Value} {r : Nat → RowD} {y : RowD} (h : RecCells 7 n xs fun i => (r i).cells) (hl : xs.length = n * 7) (ht : t < n) :
    RecCells 7 n (setsFrom xs (t * 7) y.cells) fun i => (putR r t y i).cells :=
  RecCells.congr (cells_update h hl ht rfl fun _ _ => Nat.le_refl _) fun i _ => by unfold putR; by_cases e : i = t <;> simp [e]
theorem row_at {w : World} {base gg n cap t : Nat} {xs : List Value} {r : Nat → RowD} (ho : w.ownsRow base 115 7 (.slice (some ⟨gg, 0, none⟩) n cap) n xs) (hc : RecCells 7 n xs fun i => (r i).cells) (ht : t < n) : CellsAt w gg (t * 7) (r t).cells := by
  have hlen := ho.1
  refine ⟨(ho.lt gg rfl).2, fun j u hu => ?_⟩
  have hj : j < 7 := by have := (List.getElem?_eq_some_iff.1 hu).1; simpa [RowD.cells] using this
  rw [ho.cellAt (t * 7 + j) (by omega)]
  exact hc t ht j u hu
theorem owns_put {w : World} {base gg n cap t : Nat} {xs : List Value} {y : RowD} (ho : w.ownsRow base 115 7 (.slice (some ⟨gg, 0, none⟩) n cap) n xs) :
    World.ownsRow (((((((w.setCell ⟨gg, t * 7, none⟩ (Value.int .i64 y.played)).setCell ⟨gg, t * 7 + 1, none⟩ (Value.int .i64 y.wins)).setCell ⟨gg, t * 7 + 2, none⟩ (Value.int .i64 y.draws)).setCell ⟨gg, t * 7 + 3, none⟩ (Value.int .i64 y.losses)).setCell ⟨gg, t * 7 + 4, none⟩ (Value.int .i64 y.scored)).setCell ⟨gg, t * 7 + 5, none⟩ (Value.int .i64 y.against)).setCell ⟨gg, t * 7 + 6, none⟩ (Value.int .i64 y.points)) base 115 7 (.slice (some ⟨gg, 0, none⟩) n cap) n (setsFrom xs (t * 7) y.cells) :=
  (((((((ho.stored (t * 7) (Value.int .i64 y.played)).1.stored (t * 7 + 1) (Value.int .i64 y.wins)).1.stored (t * 7 + 2) (Value.int .i64 y.draws)).1.stored (t * 7 + 3) (Value.int .i64 y.losses)).1.stored (t * 7 + 4) (Value.int .i64 y.scored)).1.stored (t * 7 + 5) (Value.int .i64 y.against)).1.stored (t * 7 + 6) (Value.int .i64 y.points)).1
theorem touch_put {a w : World} {lo hi gg t : Nat} {y : RowD} (h : Touch lo hi a w) (h1 : lo ≤ gg) (h2 : gg < hi) : Touch lo hi a (((((((w.setCell ⟨gg, t * 7, none⟩ (Value.int .i64 y.played)).setCell ⟨gg, t * 7 + 1, none⟩ (Value.int .i64 y.wins)).setCell ⟨gg, t * 7 + 2, none⟩ (Value.int .i64 y.draws)).setCell ⟨gg, t * 7 + 3, none⟩ (Value.int .i64 y.losses)).setCell ⟨gg, t * 7 + 4, none⟩ (Value.int .i64 y.scored)).setCell ⟨gg, t * 7 + 5, none⟩ (Value.int .i64 y.against)).setCell ⟨gg, t * 7 + 6, none⟩ (Value.int .i64 y.points)) :=
  Touch.setCell (Touch.setCell (Touch.setCell (Touch.setCell (Touch.setCell (Touch.setCell (Touch.setCell (h) ⟨gg, t * 7, none⟩ (Value.int .i64 y.played) h1 h2) ⟨gg, t * 7 + 1, none⟩ (Value.int .i64 y.wins) h1 h2) ⟨gg, t * 7 + 2, none⟩ (Value.int .i64 y.draws) h1 h2) ⟨gg, t * 7 + 3, none⟩ (Value.int .i64 y.losses) h1 h2) ⟨gg, t * 7 + 4, none⟩ (Value.int .i64 y.scored) h1 h2) ⟨gg, t * 7 + 5, none⟩ (Value.int .i64 y.against) h1 h2) ⟨gg, t * 7 + 6, none⟩ (Value.int .i64 y.points) h1 h2

theorem box_put {w : World} {B gg t : Nat} {cs : List Value} {y : RowD} (h : BoxN w B cs) (hB : B ≠ gg) : BoxN (((((((w.setCell ⟨gg, t * 7, none⟩ (Value.int .i64 y.played)).setCell ⟨gg, t * 7 + 1, none⟩ (Value.int .i64 y.wins)).setCell ⟨gg, t * 7 + 2, none⟩ (Value.int .i64 y.draws)).setCell ⟨gg, t * 7 + 3, none⟩ (Value.int .i64 y.losses)).setCell ⟨gg, t * 7 + 4, none⟩ (Value.int .i64 y.scored)).setCell ⟨gg, t * 7 + 5, none⟩ (Value.int .i64 y.against)).setCell ⟨gg, t * 7 + 6, none⟩ (Value.int .i64 y.points)) B cs := (BoxN.elsewhere (BoxN.elsewhere (BoxN.elsewhere (BoxN.elsewhere (BoxN.elsewhere (BoxN.elsewhere (BoxN.elsewhere h (D := gg) (t * 7) (Value.int .i64 y.played) hB) (D := gg) (t * 7 + 1) (Value.int .i64 y.wins) hB) (D := gg) (t * 7 + 2) (Value.int .i64 y.draws) hB) (D := gg) (t * 7 + 3) (Value.int .i64 y.losses) hB) (D := gg) (t * 7 + 4) (Value.int .i64 y.scored) hB) (D := gg) (t * 7 + 5) (Value.int .i64 y.against) hB) (D := gg) (t * 7 + 6) (Value.int .i64 y.points) hB)

theorem row_free {w : World} {base gg n cap t : Nat} {xs : List Value} {r : Nat → RowD} (ho : w.ownsRow base 115 7 (.slice (some ⟨gg, 0, none⟩) n cap) n xs) (hc : RecCells 7 n xs fun i => (r i).cells) (ht : t < n) :
    (w.cell? ⟨gg, t * 7, none⟩ = some (.int .i64 (r t).played) ∧ w.frozen? ⟨gg, t * 7, none⟩ = false) ∧ (w.cell? ⟨gg, t * 7 + 1, none⟩ = some (.int .i64 (r t).wins) ∧ w.frozen? ⟨gg, t * 7 + 1, none⟩ = false) ∧ (w.cell? ⟨gg, t * 7 + 2, none⟩ = some (.int .i64 (r t).draws) ∧ w.frozen? ⟨gg, t * 7 + 2, none⟩ = false) ∧ (w.cell? ⟨gg, t * 7 + 3, none⟩ = some (.int .i64 (r t).losses) ∧ w.frozen? ⟨gg, t * 7 + 3, none⟩ = false) ∧ (w.cell? ⟨gg, t * 7 + 4, none⟩ = some (.int .i64 (r t).scored) ∧ w.frozen? ⟨gg, t * 7 + 4, none⟩ = false) ∧ (w.cell? ⟨gg, t * 7 + 5, none⟩ = some (.int .i64 (r t).against) ∧ w.frozen? ⟨gg, t * 7 + 5, none⟩ = false) ∧ (w.cell? ⟨gg, t * 7 + 6, none⟩ = some (.int .i64 (r t).points) ∧ w.frozen? ⟨gg, t * 7 + 6, none⟩ = false) := by
  have h := row_at ho hc ht
  exact ⟨⟨h.2 0 _ rfl, ho.frozenAt _⟩, ⟨h.2 1 _ rfl, ho.frozenAt _⟩, ⟨h.2 2 _ rfl, ho.frozenAt _⟩, ⟨h.2 3 _ rfl, ho.frozenAt _⟩, ⟨h.2 4 _ rfl, ho.frozenAt _⟩, ⟨h.2 5 _ rfl, ho.frozenAt _⟩, ⟨h.2 6 _ rfl, ho.frozenAt _⟩⟩

end Go.Proofs.YteciobkjfmddcaaGreatDoor
set_option linter.unusedVariables false
namespace Go.Proofs.YteciobkjfmddcaaGreatDoor
open Go.RowKit

theorem barr_ne {x y : ByteArray} (h : x ≠ y) : (x.toList == y.toList) = false := by
  rw [beq_eq_false_iff_ne, ne_eq, ByteArray.toList_eq, ByteArray.toList_eq]
  exact fun e => h (ByteArray.ext (Array.toList_inj.mp e))
def knm (k : Nat) : ByteArray := match k with
  | 1 => ⟨#[112, 111, 105, 110, 116, 115]⟩
  | 2 => ⟨#[100, 105, 102, 102, 101, 114, 101, 110, 99, 101]⟩
  | 3 => ⟨#[115, 99, 111, 114, 101, 100]⟩
  | 4 => ⟨#[119, 105, 110, 115]⟩
  | 5 => ⟨#[109, 117, 116, 117, 97, 108]⟩
  | 6 => ⟨#[109, 117, 116, 117, 97, 108, 100, 105, 102, 102, 101, 114, 101, 110, 99, 101]⟩
  | 7 => ⟨#[102, 97, 105, 114]⟩
  | 8 => ⟨#[115, 101, 101, 100]⟩
  | _ => ⟨#[]⟩
theorem keyNameI_yes (k : Nat) (w : World) (h1 : 1 ≤ k) (h8 : k ≤ 8) :
    Calls Tryz.prog 22 #[.int .i64 (k : Int)] w fun e w' => e = .returned (.string (knm k)) ∧ w = w' := by
  have : k = 1 ∨ k = 2 ∨ k = 3 ∨ k = 4 ∨ k = 5 ∨ k = 6 ∨ k = 7 ∨ k = 8 := by omega
  rcases this with rfl | rfl | rfl | rfl | rfl | rfl | rfl | rfl
  all_goals
    go_enter Tryz.func22, Tryz.ntmps22
    go_wp2
    go_ret
    exact ⟨rfl, rfl⟩
theorem keyNameI_no (k : Int) (w : World) (h : ¬ (1 ≤ k ∧ k ≤ 8)) :
    Calls Tryz.prog 22 #[.int .i64 k] w fun e w' => e = .returned (.string ⟨#[]⟩) ∧ w = w' := by
  have g1 : (k == 1) = false := beq_eq_false_iff_ne.2 (by omega)
  have g2 : (k == 2) = false := beq_eq_false_iff_ne.2 (by omega)
  have g3 : (k == 3) = false := beq_eq_false_iff_ne.2 (by omega)
  have g4 : (k == 4) = false := beq_eq_false_iff_ne.2 (by omega)
  have g5 : (k == 5) = false := beq_eq_false_iff_ne.2 (by omega)
  have g6 : (k == 6) = false := beq_eq_false_iff_ne.2 (by omega)
  have g7 : (k == 7) = false := beq_eq_false_iff_ne.2 (by omega)
  have g8 : (k == 8) = false := beq_eq_false_iff_ne.2 (by omega)
  clear h
  go_enter Tryz.func22, Tryz.ntmps22
  go_wp2
  go_ret
  exact ⟨rfl, rfl⟩
def knmI (k : Int) : ByteArray := if 1 ≤ k ∧ k ≤ 8 then knm k.toNat else ⟨#[]⟩
theorem keyName_impl (k : Int) (w : World) :
    Calls Tryz.prog 22 #[.int .i64 k] w fun e w' => e = .returned (.string (knmI k)) ∧ w = w' := by
  unfold knmI
  by_cases h : 1 ≤ k ∧ k ≤ 8
  · rw [if_pos h]
    obtain ⟨j, rfl⟩ : ∃ j : Nat, k = j := ⟨k.toNat, by omega⟩
    rw [Int.toNat_natCast]
    exact keyNameI_yes j w (by omega) (by omega)
  · rw [if_neg h]
    exact keyNameI_no k w h

def keyLead (s : ByteArray) : Nat → Nat → Nat
  | 0, _ => 0
  | r + 1, k => if knm k = s then k else keyLead s r (k + 1)
def mutualB (k : Int) : Bool := decide (k = 5 ∨ k = 6)
theorem isMutual_impl (k : Int) (w : World) : Calls Tryz.prog 25 #[.int .i64 k] w fun e w' => e = .returned (.bool (mutualB k)) ∧ w = w' := by
  generalize hr : mutualB k = R
  unfold mutualB at hr
  by_cases h5 : k = 5
  · subst h5
    obtain rfl : R = true := by simpa using hr.symm
    clear hr
    go_enter Tryz.func25, Tryz.ntmps25
    go_wp2
    go_ret
    exact ⟨rfl, rfl⟩
  by_cases h6 : k = 6
  · subst h6
    obtain rfl : R = true := by simpa using hr.symm
    clear hr h5
    go_enter Tryz.func25, Tryz.ntmps25
    go_wp2
    go_ret
    exact ⟨rfl, rfl⟩
  · obtain rfl : R = false := by simpa [h5, h6] using hr.symm
    have g5 : (k == 5) = false := beq_eq_false_iff_ne.2 h5
    have g6 : (k == 6) = false := beq_eq_false_iff_ne.2 h6
    clear hr h5 h6
    go_enter Tryz.func25, Tryz.ntmps25
    go_wp2
    go_ret
    exact ⟨rfl, rfl⟩
end Go.Proofs.YteciobkjfmddcaaGreatDoor
set_option linter.unusedVariables false
namespace Go.Proofs.YteciobkjfmddcaaGreatDoor
open Go.RowKit

def ladP (n : Nat) (g : Nat → Int) : Prop := (1 ≤ (n : Int) ∧ (n : Int) ≤ 8) ∧ ∀ i, i < n → (1 ≤ g i ∧ g i ≤ 8) ∧ ¬ hasP g (g i) i
def rulesP (win draw loss : Int) (n : Nat) (g : Nat → Int) : Prop := (0 ≤ win ∧ win ≤ 10) ∧ (0 ≤ draw ∧ draw ≤ win) ∧ (0 ≤ loss ∧ loss ≤ draw) ∧ ladP n g
end Go.Proofs.YteciobkjfmddcaaGreatDoor
set_option linter.unusedVariables false
namespace Go.Proofs.YteciobkjfmddcaaGreatDoor
open Go.RowKit

def hasB (g : Nat → Int) (n : Nat) (x : Int) : Bool := (List.range n).any fun j => g j == x
theorem hasB_iff {g : Nat → Int} {n : Nat} {x : Int} : hasB g n x = true ↔ hasP g x n := by
  unfold hasB hasP
  simp
theorem l02Has_any (v : Value) (n : Nat) (g : Nat → Int) (x : Int) (w : World) (h : IntRow w v n g) :
    Calls Tryz.prog 60 #[v, .int .i64 x] w fun e w' => e = .returned (.bool (hasB g n x)) ∧ w = w' := by
  cases hb : hasB g n x with
  | true => exact l02Has_yes v n g x w h (hasB_iff.1 hb)
  | false => exact l02Has_no v n g x w h fun hp => by rw [hasB_iff.2 hp] at hb; cases hb
def selG (all : Bool) (gg : Nat → Int) (ng : Nat) (x : GameD) : Bool := all || (hasB gg ng x.home && hasB gg ng x.away)
def tabR (win draw loss : Int) (sel : GameD → Bool) (g : Nat → GameD) : Nat → Nat → RowD
  | 0 => fun _ => zeroR
  | k + 1 => if sel (g k) = true then addG win draw loss (tabR win draw loss sel g k) (g k) else tabR win draw loss sel g k
theorem made_rows (n : Nat) : RecCells 7 n (madeCells (Value.agg #[.int .i64 0, .int .i64 0, .int .i64 0, .int .i64 0, .int .i64 0, .int .i64 0, .int .i64 0]).cells (n * 7)).toList (fun _ => zeroR.cells) := by
  intro i hi j u hu
  have hj : j < 7 := by have := (List.getElem?_eq_some_iff.1 hu).1; simpa [RowD.cells] using this
  have hu0 : u = .int .i64 0 := by
    have : j = 0 ∨ j = 1 ∨ j = 2 ∨ j = 3 ∨ j = 4 ∨ j = 5 ∨ j = 6 := by omega
    rcases this with rfl | rfl | rfl | rfl | rfl | rfl | rfl <;> (simp [RowD.cells, zeroR] at hu; exact hu.symm)
  subst hu0
  have hlt : i * 7 + j < n * 7 := by omega
  have hz : ∀ t, t < 7 → (#[Value.int .i64 0, .int .i64 0, .int .i64 0, .int .i64 0, .int .i64 0, .int .i64 0, .int .i64 0])[t]! = Value.int .i64 0 := by
    intro t ht
    have : t = 0 ∨ t = 1 ∨ t = 2 ∨ t = 3 ∨ t = 4 ∨ t = 5 ∨ t = 6 := by omega
    rcases this with rfl | rfl | rfl | rfl | rfl | rfl | rfl <;> rfl
  have hc : (Value.agg #[.int .i64 0, .int .i64 0, .int .i64 0, .int .i64 0, .int .i64 0, .int .i64 0, .int .i64 0]).cells = #[Value.int .i64 0, .int .i64 0, .int .i64 0, .int .i64 0, .int .i64 0, .int .i64 0, .int .i64 0] := rfl
  rw [hc, Array.getElem?_toList]
  unfold madeCells
  rw [Array.getElem?_map, Array.getElem?_range, if_pos hlt]
  simp only [Option.map_some]
  exact congrArg some (hz _ (Nat.mod_lt _ (by decide)))

theorem boolEx (p : Prop) : ∃ R : Bool, R = true ↔ p := by
  by_cases h : p
  · exact ⟨true, fun _ => h, fun _ => rfl⟩
  · exact ⟨false, (fun e => by cases e), fun e => absurd e h⟩

def tabP (win draw loss : Int) (nl : Nat) (gl : Nat → Int) (n : Int) (m : Nat) (g : Nat → GameD) : Prop := rulesP win draw loss nl gl ∧ (2 ≤ n ∧ n ≤ 8) ∧ seasonP n m g
theorem made_none {w w' : World} {k : Nat} {T : TypeId} {g : Nat → List Value} (hb : Below w.heap.size w w') : RecMade k T w 0 g (.returned (.slice none 0 0)) w' :=
  ⟨_, rfl, .inl ⟨_, _, rfl, rfl⟩, ⟨_, World.ownsRow_nil _ _ _ _⟩, hb⟩

end Go.Proofs.YteciobkjfmddcaaGreatDoor
set_option linter.unusedVariables false
namespace Go.Proofs.YteciobkjfmddcaaGreatDoor
open Go.RowKit

def mkd : Nat → Nat → List UInt8 → List UInt8
  | 0, _, out => out
  | f + 1, k, out => if 0 < k then mkd f (k / 10) ((48 + UInt8.ofNat (k % 10)) :: out) else out
def mkT (k : Nat) : ByteArray := ⟨(109 :: mkd k k []).toArray⟩
theorem mkd_step (f k : Nat) (out : List UInt8) (h : 0 < k) : mkd (f + 1) k out = mkd f (k / 10) ((48 + UInt8.ofNat (k % 10)) :: out) := by
  simp [mkd, h]
theorem mkd_end (f : Nat) (out : List UInt8) : mkd f 0 out = out := by cases f <;> simp [mkd]

theorem one_byte_string {P : Program} (w : World) (src dst e : TypeId) (hs : P.underlying src = some (.slice e)) (he : P.underlying e = some (.int .u8)) (hd : P.underlying dst = some .string) (v : Int) :
    (convert src dst (.slice (some ⟨w.heap.size, 0, none⟩) 1 1)).run P (w.alloc (.cells #[.int .u8 v] e)) = .ok (.string ⟨[UInt8.ofNat v.toNat].toArray⟩) (w.alloc (.cells #[.int .u8 v] e)) := by
  have h := run_convert_bytes_arg (P := P) (w.alloc (.cells #[.int .u8 v] e)) src e hs he w.heap.size 0 1 1 [v] rfl (fun i hi => by
    obtain rfl : i = 0 := by omega
    simp) dst hd
  rw [h]
  rfl
theorem cat_lists (x y : List UInt8) : (ByteArray.mk x.toArray ++ ByteArray.mk y.toArray) = ByteArray.mk (x ++ y).toArray := ByteArray.mk_append_mk x y

def StrRow (w : World) (v : Value) (n : Nat) (g : Nat → ByteArray) : Prop :=
  (∃ a cap, v = .slice a 0 cap ∧ n = 0) ∨ ∃ b off cap, v = .slice (some ⟨b, off, none⟩) n cap ∧ 0 < n ∧ n ≤ 9223372036854775807 ∧ (∀ i, i < n → w.cell? ⟨b, off + i, none⟩ = some (.string (g i))) ∧ n ≤ cap
theorem StrRow.drewN {w : World} {v : Value} {n q : Nat} {g : Nat → ByteArray} (h : StrRow w v n g) : StrRow (w.drewN q) v n g := by
  rcases h with h | ⟨b, off, cap, h1, h0, h2, h3, h4⟩
  · exact .inl h
  · exact .inr ⟨b, off, cap, h1, h0, h2, fun i hi => by rw [World.cell?_drewN]; exact h3 i hi, h4⟩

theorem StrRow.of_owns {w : World} {base : Nat} {e : TypeId} {v : Value} {n : Nat} {xs : List Value} {g : Nat → ByteArray} (h : w.ownsRow base e 1 v n xs) (hn : n ≤ 9223372036854775807)
    (hg : ∀ i, i < n → xs[i]? = some (.string (g i))) : StrRow w v n g := by
  by_cases h0 : n = 0
  · subst h0
    rcases h.2 with ⟨rfl, _⟩ | ⟨b, cap, cur, rfl, _⟩
    · exact .inl ⟨_, _, rfl, rfl⟩
    · exact .inl ⟨_, _, rfl, rfl⟩
  · rcases h.2 with ⟨_, hz⟩ | ⟨b, cap, cur, rfl, _, _, hcap, _⟩
    · exact absurd hz h0
    · refine .inr ⟨b, 0, cap, rfl, by omega, hn, fun i hi => ?_, hcap⟩
      rw [Nat.zero_add, h.cellAt i (by omega)]
      exact hg i hi

def StrMarked (base : Nat) (w : World) (v : Value) (n k : Nat) (e : Ending) (w' : World) : Prop :=
  e = .returned (.int .i64 ((k : Int) + n)) ∧ (∃ ys, w'.ownsRow base 9 1 v n ys ∧ ∀ i, i < n → ys[i]? = some (.string (mkT (k + i)))) ∧ Below base w w'

theorem StrRow.below {w w' : World} {B : Nat} {v : Value} {n : Nat} {g : Nat → ByteArray} (h : StrRow w v n g) (hb : Below B w w') (hB : w.heap.size ≤ B) : StrRow w' v n g := by
  rcases h with h | ⟨b, off, cap, h1, h0, h2, h3, h4⟩
  · exact .inl h
  · exact .inr ⟨b, off, cap, h1, h0, h2, fun i hi => (hb.cell (p := ⟨b, off + i, none⟩) (Nat.lt_of_lt_of_le (World.block_lt_of_cell? w _ (h3 i hi)) hB)).trans (h3 i hi), h4⟩
def getS (L : List ByteArray) (i : Nat) : ByteArray := L.getD i ByteArray.empty
theorem StrRow.of_list {w : World} {base : Nat} {e : TypeId} {v : Value} {L : List ByteArray} (h : w.ownsRow base e 1 v L.length (L.map Value.string)) (hn : L.length ≤ 9223372036854775807) :
    StrRow w v L.length (getS L) := StrRow.of_owns h hn fun i hi => by simp [getS, hi]
end Go.Proofs.YteciobkjfmddcaaGreatDoor
set_option linter.unusedVariables false
namespace Go.Proofs.YteciobkjfmddcaaGreatDoor
open Go.RowKit

structure TeamD where
  nm : ByteArray
  club : Int
  seed : Int
def TeamD.val (t : TeamD) : Value := .agg #[.string t.nm, .int .i64 t.club, .int .i64 t.seed]
def TeamD.cells (t : TeamD) : List Value := [.string t.nm, .int .i64 t.club, .int .i64 t.seed]
def TeamRow (w : World) (v : Value) (n : Nat) (g : Nat → TeamD) : Prop :=
  (∃ a cap, v = .slice a 0 cap ∧ n = 0) ∨ ∃ b off cap, v = .slice (some ⟨b, off, none⟩) n cap ∧ 0 < n ∧ n ≤ 9223372036854775807 ∧
    (∀ i, i < n → w.cell? ⟨b, off + i * 3, none⟩ = some (.string (g i).nm) ∧ w.cell? ⟨b, off + i * 3 + 1, none⟩ = some (.int .i64 (g i).club) ∧ w.cell? ⟨b, off + i * 3 + 2, none⟩ = some (.int .i64 (g i).seed)) ∧ n ≤ cap
theorem TeamRow.form {w : World} {v : Value} {n : Nat} {g : Nat → TeamD} (h : TeamRow w v n g) :
    ∃ a cap, v = .slice a n cap ∧ n ≤ 9223372036854775807 ∧ (0 < n → ∃ b off, a = some ⟨b, off, none⟩ ∧
      ∀ i, i < n → w.cell? ⟨b, off + i * 3, none⟩ = some (.string (g i).nm) ∧ w.cell? ⟨b, off + i * 3 + 1, none⟩ = some (.int .i64 (g i).club) ∧ w.cell? ⟨b, off + i * 3 + 2, none⟩ = some (.int .i64 (g i).seed)) := by
  rcases h with ⟨a, cap, rfl, rfl⟩ | ⟨b, off, cap, rfl, _, hn, hc, _⟩
  · exact ⟨_, _, rfl, by omega, fun h => absurd h (by omega)⟩
  · exact ⟨_, _, rfl, hn, fun _ => ⟨b, off, rfl, hc⟩⟩

def SzTeamPost (t : TeamD) (left : Int) (w : World) (e : Ending) (w' : World) : Prop :=
  (∃ r : Int, e = .returned (.int .i64 r) ∧ ((left < t.nm.size ∧ r < 0) ∨ (0 ≤ r ∧ t.nm.size + r = left))) ∧ Below w.heap.size w w'
def totT (g : Nat → TeamD) : Nat → Nat
  | 0 => 0
  | k + 1 => totT g k + (g k).nm.size
def SzTeamsPost (g : Nat → TeamD) (n left : Nat) (w : World) (e : Ending) (w' : World) : Prop :=
  (∃ r : Int, e = .returned (.int .i64 r) ∧ (r < 0 ∨ (0 ≤ r ∧ n + totT g n + r = left))) ∧ Below w.heap.size w w'
theorem cells_below {w wr : World} {b off j : Nat} {t : TeamD} (hb : Below w.heap.size w wr) (h : w.cell? ⟨b, off + j * 3, none⟩ = some (.string t.nm) ∧ w.cell? ⟨b, off + j * 3 + 1, none⟩ = some (.int .i64 t.club) ∧ w.cell? ⟨b, off + j * 3 + 2, none⟩ = some (.int .i64 t.seed)) :
    wr.cell? ⟨b, off + j * 3, none⟩ = some (.string t.nm) ∧ wr.cell? ⟨b, off + j * 3 + 1, none⟩ = some (.int .i64 t.club) ∧ wr.cell? ⟨b, off + j * 3 + 2, none⟩ = some (.int .i64 t.seed) := by
  have hblt : b < w.heap.size := World.block_lt_of_cell? w _ h.1
  exact ⟨(hb.cell (p := ⟨b, off + j * 3, none⟩) hblt).trans h.1, (hb.cell (p := ⟨b, off + j * 3 + 1, none⟩) hblt).trans h.2.1, (hb.cell (p := ⟨b, off + j * 3 + 2, none⟩) hblt).trans h.2.2⟩

theorem Tryz.infoTeam : (Tryz.prog.info? 90).map (fun i => (i.zero, i.size, i.bytes)) = some (some (.agg #[.string ByteArray.empty, .int .i64 0, .int .i64 0]), 3, 32) := by kernel_rfl
def TeamsMade (w : World) (n : Nat) (g : Nat → TeamD) (e : Ending) (w' : World) : Prop :=
  ∃ v, e = .returned v ∧ TeamRow w' v n g ∧ (∃ xs, w'.ownsRow w.heap.size 90 3 v n xs) ∧ Below w.heap.size w w'
theorem TeamRow.of_owns {w : World} {base : Nat} {e : TypeId} {v : Value} {n : Nat} {xs : List Value} {g : Nat → TeamD} (h : w.ownsRow base e 3 v n xs) (hn : n ≤ 9223372036854775807)
    (hg : ∀ t, t < n → xs[t * 3]? = some (.string (g t).nm) ∧ xs[t * 3 + 1]? = some (.int .i64 (g t).club) ∧ xs[t * 3 + 2]? = some (.int .i64 (g t).seed)) : TeamRow w v n g := by
  by_cases h0 : n = 0
  · subst h0
    rcases h.2 with ⟨rfl, _⟩ | ⟨b, cap, cur, rfl, _⟩
    · exact .inl ⟨_, _, rfl, rfl⟩
    · exact .inl ⟨_, _, rfl, rfl⟩
  · rcases h.2 with ⟨_, hz⟩ | ⟨b, cap, cur, rfl, _, _, hcap, _⟩
    · exact absurd hz h0
    · refine .inr ⟨b, 0, cap, rfl, by omega, hn, fun i hi => ?_, hcap⟩
      obtain ⟨h1, h2, h3⟩ := hg i hi
      simp only [Nat.zero_add]
      exact ⟨by rw [h.cellAt _ (by omega)]; exact h1, by rw [h.cellAt _ (by omega)]; exact h2, by rw [h.cellAt _ (by omega)]; exact h3⟩
theorem tgrown_trans {a b c : World} {row : Option Nat} (h : a.grownBy b row) (k : b.grownBy c row) : a.grownBy c row :=
  ⟨k.os.trans h.os, k.tape.trans h.tape, k.output.trans h.output, Nat.le_trans h.size k.size, fun i hi hne => (k.block i (Nat.lt_of_lt_of_le hi h.size) hne).trans (h.block i hi hne)⟩
theorem tgrown_any {a b : World} (h : a.grownBy b none) (row : Option Nat) : a.grownBy b row := ⟨h.os, h.tape, h.output, h.size, fun i hi _ => h.block i hi (by simp)⟩
theorem tgrown_refl (a : World) (row : Option Nat) : a.grownBy a row := ⟨rfl, rfl, rfl, Nat.le_refl _, fun _ _ _ => rfl⟩
end Go.Proofs.YteciobkjfmddcaaGreatDoor
set_option linter.unusedVariables false
namespace Go.Proofs.YteciobkjfmddcaaGreatDoor
open Go.RowKit

theorem bytes_ne {x y : ByteArray} (h : x ≠ y) : (x.toList == y.toList) = false := by
  rw [beq_eq_false_iff_ne, ne_eq, ByteArray.toList_eq, ByteArray.toList_eq]
  exact fun e => h (ByteArray.ext (Array.toList_inj.mp e))
def teamP (t : TeamD) : Prop := nameB t.nm = true ∧ (0 ≤ t.club ∧ t.club ≤ 5) ∧ (1 ≤ t.seed ∧ t.seed ≤ 8)
def namedI (g : Nat → TeamD) (x : ByteArray) : Nat → Nat → Int
  | 0, _ => -1
  | r + 1, k => if (g k).nm = x then (k : Int) else namedI g x r (k + 1)
theorem var3 {w w2 : World} {t : TypeId} {a b c : Value} (h : Below (w.alloc (.cells #[a, b, c] t)).heap.size (w.alloc (.cells #[a, b, c] t)) w2) :
    w2.cell? ⟨w.heap.size, 0, none⟩ = some a ∧ w2.cell? ⟨w.heap.size, 1, none⟩ = some b ∧ w2.cell? ⟨w.heap.size, 2, none⟩ = some c := by
  have key : ∀ (j : Nat) (u : Value), #[a, b, c][j]? = some u → w2.cell? ⟨w.heap.size, j, none⟩ = some u := by
    intro j u hu
    have h0 : (w.alloc (.cells #[a, b, c] t)).cell? ⟨w.heap.size, j, none⟩ = some u := by
      rw [cell_of_row _ w.heap.size j #[a, b, c] t (0, 0) (heap_alloc_new w _)]
      exact hu
    exact (h.cell (p := ⟨w.heap.size, j, none⟩) (World.block_lt_of_cell? _ _ h0)).trans h0
  exact ⟨key 0 a rfl, key 1 b rfl, key 2 c rfl⟩
theorem var3_below {w w2 : World} {B : Nat} {a b c : Value} (k0 : w.cell? ⟨B, 0, none⟩ = some a) (k1 : w.cell? ⟨B, 1, none⟩ = some b) (k2 : w.cell? ⟨B, 2, none⟩ = some c) (h : Below w.heap.size w w2) :
    w2.cell? ⟨B, 0, none⟩ = some a ∧ w2.cell? ⟨B, 1, none⟩ = some b ∧ w2.cell? ⟨B, 2, none⟩ = some c := by
  have hlt : B < w.heap.size := World.block_lt_of_cell? w _ k0
  exact ⟨(h.cell (p := ⟨B, 0, none⟩) hlt).trans k0, (h.cell (p := ⟨B, 1, none⟩) hlt).trans k1, (h.cell (p := ⟨B, 2, none⟩) hlt).trans k2⟩
theorem TeamRow.take {w : World} {b off cap n : Nat} {g : Nat → TeamD} (k : Nat) (hk : k ≤ n) (hn : n ≤ 9223372036854775807) (hcap : n ≤ cap)
    (h : ∀ i, i < n → w.cell? ⟨b, off + i * 3, none⟩ = some (.string (g i).nm) ∧ w.cell? ⟨b, off + i * 3 + 1, none⟩ = some (.int .i64 (g i).club) ∧ w.cell? ⟨b, off + i * 3 + 2, none⟩ = some (.int .i64 (g i).seed)) :
    TeamRow w (.slice (some ⟨b, off, none⟩) k cap) k g := by
  by_cases h0 : k = 0
  · subst h0; exact .inl ⟨_, _, rfl, rfl⟩
  · exact .inr ⟨b, off, cap, rfl, by omega, by omega, fun i hi => h i (by omega), by omega⟩
theorem TeamRow.form' {w : World} {v : Value} {n : Nat} {g : Nat → TeamD} (h : TeamRow w v n g) :
    ∃ a cap, v = .slice a n cap ∧ n ≤ 9223372036854775807 ∧ (0 < n → ∃ b off, a = some ⟨b, off, none⟩ ∧ n ≤ cap ∧
      ∀ i, i < n → w.cell? ⟨b, off + i * 3, none⟩ = some (.string (g i).nm) ∧ w.cell? ⟨b, off + i * 3 + 1, none⟩ = some (.int .i64 (g i).club) ∧ w.cell? ⟨b, off + i * 3 + 2, none⟩ = some (.int .i64 (g i).seed)) := by
  rcases h with ⟨a, cap, rfl, rfl⟩ | ⟨b, off, cap, rfl, _, hn, hc, hcap⟩
  · exact ⟨_, _, rfl, by omega, fun h => absurd h (by omega)⟩
  · exact ⟨_, _, rfl, hn, fun _ => ⟨b, off, rfl, hcap, hc⟩⟩

def freshP (g : Nat → TeamD) (i : Nat) : Prop := teamP (g i) ∧ ∀ j, j < i → (g j).nm ≠ (g i).nm ∧ (g j).seed ≠ (g i).seed
def fieldP (n : Nat) (g : Nat → TeamD) : Prop := (2 ≤ n ∧ n ≤ 8) ∧ ∀ i, i < n → freshP g i
end Go.Proofs.YteciobkjfmddcaaGreatDoor
set_option linter.unusedVariables false
namespace Go.Proofs.YteciobkjfmddcaaGreatDoor
open Go.RowKit

def NumsMade (w : World) (L : List Int) (e : Ending) (w' : World) : Prop :=
  ∃ v, e = .returned v ∧ w'.ownsRow w.heap.size 3 1 v L.length (L.map (Value.int .i64)) ∧ Below w.heap.size w w'
def selL (f : Nat → Int) (c : Int) : Nat → List Int
  | 0 => []
  | k + 1 => selL f c k ++ if f k = c then [(k : Int)] else []
theorem selL_yes {f : Nat → Int} {c : Int} {k : Nat} (h : f k = c) : selL f c (k + 1) = selL f c k ++ [(k : Int)] := by simp [selL, h]
theorem selL_no {f : Nat → Int} {c : Int} {k : Nat} (h : f k ≠ c) : selL f c (k + 1) = selL f c k := by simp [selL, h]
theorem selL_len (f : Nat → Int) (c : Int) : ∀ k, (selL f c k).length ≤ k
  | 0 => Nat.le_refl _
  | k + 1 => by
    have := selL_len f c k
    by_cases h : f k = c
    · rw [selL_yes h]; simp; omega
    · rw [selL_no h]; omega

def seedsL (f : Nat → Int) (n : Nat) : Nat → List Int
  | 0 => []
  | s + 1 => seedsL f n s ++ selL f ((s : Int) + 1) n
def clubsN (g : Nat → TeamD) (n : Nat) : Nat → Nat
  | 0 => 0
  | c + 1 => clubsN g n c + if 0 < (selL (fun i => (g i).club) (c : Int) n).length then 1 else 0
theorem clubsN_le (g : Nat → TeamD) (n : Nat) : ∀ c, clubsN g n c ≤ c
  | 0 => Nat.le_refl _
  | c + 1 => by
    have := clubsN_le g n c
    unfold clubsN
    split <;> omega
theorem TeamRow.below {w w' : World} {B : Nat} {v : Value} {n : Nat} {g : Nat → TeamD} (h : TeamRow w v n g) (hb : Below B w w') (hB : w.heap.size ≤ B) : TeamRow w' v n g := by
  rcases h with h | ⟨b, off, cap, h1, h0, h2, h3, h4⟩
  · exact .inl h
  · refine .inr ⟨b, off, cap, h1, h0, h2, fun i hi => ?_, h4⟩
    obtain ⟨k0, k1, k2⟩ := h3 i hi
    have hlt := Nat.lt_of_lt_of_le (World.block_lt_of_cell? w _ k0) hB
    exact ⟨(hb.cell (p := ⟨b, off + i * 3, none⟩) hlt).trans k0, (hb.cell (p := ⟨b, off + i * 3 + 1, none⟩) hlt).trans k1, (hb.cell (p := ⟨b, off + i * 3 + 2, none⟩) hlt).trans k2⟩
theorem TeamRow.drewN {w : World} {v : Value} {n q : Nat} {g : Nat → TeamD} (h : TeamRow w v n g) : TeamRow (w.drewN q) v n g := by
  rcases h with h | ⟨b, off, cap, h1, h0, h2, h3, h4⟩
  · exact .inl h
  · exact .inr ⟨b, off, cap, h1, h0, h2, fun i hi => by simp only [World.cell?_drewN]; exact h3 i hi, h4⟩
theorem NumsMade.form {w w' : World} {L : List Int} {e : Ending} (h : NumsMade w L e w') :
    ∃ a cap, e = .returned (.slice a L.length cap) ∧ w'.ownsRow w.heap.size 3 1 (.slice a L.length cap) L.length (L.map (Value.int .i64)) ∧ Below w.heap.size w w' := by
  obtain ⟨v, rfl, hown, hb⟩ := h
  rcases hown.2 with ⟨rfl, h0⟩ | ⟨g, cap, cur, rfl, _⟩
  · cases L with
    | nil => exact ⟨_, _, rfl, hown, hb⟩
    | cons => simp at h0
  · exact ⟨_, _, rfl, hown, hb⟩
theorem seedsL_len (f : Nat → Int) (n : Nat) : ∀ s, (seedsL f n s).length ≤ s * n
  | 0 => by simp [seedsL]
  | s + 1 => by
    have h1 := seedsL_len f n s
    have h2 := selL_len f ((s : Int) + 1) n
    unfold seedsL
    rw [List.length_append, Nat.succ_mul]
    omega
end Go.Proofs.YteciobkjfmddcaaGreatDoor
set_option linter.unusedVariables false
namespace Go.Proofs.YteciobkjfmddcaaGreatDoor
open Go.RowKit

structure BookD where
  nf : Nat
  f : Nat → TeamD
  win : Int
  draw : Int
  loss : Int
  nl : Nat
  l : Nat → Int
  again : Bool
  m : Nat
  g : Nat → GameD
  nfa : Nat
  fa : Nat → Int
  nta : Nat
  ta : Nat → Int
def BookRow (w : World) (vf vl vg vfa vta : Value) (b : BookD) : Prop :=
  TeamRow w vf b.nf b.f ∧ IntRow w vl b.nl b.l ∧ GameRow w vg b.m b.g ∧ IntRow w vfa b.nfa b.fa ∧ IntRow w vta b.nta b.ta
theorem BookRow.below {w w' : World} {B : Nat} {vf vl vg vfa vta : Value} {b : BookD} (h : BookRow w vf vl vg vfa vta b) (hb : Below B w w') (hB : w.heap.size ≤ B) : BookRow w' vf vl vg vfa vta b :=
  ⟨h.1.below hb hB, h.2.1.below hb hB, h.2.2.1.below hb hB, h.2.2.2.1.below hb hB, h.2.2.2.2.below hb hB⟩
theorem BookRow.form {w : World} {vf vl vg vfa vta : Value} {b : BookD} (h : BookRow w vf vl vg vfa vta b) :
    ∃ fa fc la lc ga gc qa qc ta tc, vf = .slice fa b.nf fc ∧ vl = .slice la b.nl lc ∧ vg = .slice ga b.m gc ∧ vfa = .slice qa b.nfa qc ∧ vta = .slice ta b.nta tc := by
  obtain ⟨fa, fc, h1, _⟩ := h.1.form
  obtain ⟨la, lc, h2, _⟩ := h.2.1.form
  obtain ⟨ga, gc, h3, _⟩ := h.2.2.1.form
  obtain ⟨qa, qc, h4, _⟩ := h.2.2.2.1.form
  obtain ⟨ta, tc, h5, _⟩ := h.2.2.2.2.form
  exact ⟨fa, fc, la, lc, ga, gc, qa, qc, ta, tc, h1, h2, h3, h4, h5⟩
def pensP (b : BookD) (i : Nat) : Prop := (0 ≤ b.fa i ∧ b.fa i ≤ 1000) ∧ (0 ≤ b.ta i ∧ b.ta i ≤ 1000)
def bookP (b : BookD) : Prop := fieldP b.nf b.f ∧ rulesP b.win b.draw b.loss b.nl b.l ∧ seasonP b.nf b.m b.g ∧ b.nfa = b.nf ∧ b.nta = b.nf ∧ ∀ i, i < b.nf → pensP b i
theorem int_at {w : World} {a : Option Addr} {n c k : Nat} {g : Nat → Int} (h : IntRow w (.slice a n c) n g) (hk : k < n) : ∃ bo off, a = some ⟨bo, off, none⟩ ∧ n ≤ c ∧ w.cell? ⟨bo, off + k, none⟩ = some (.int .i64 (g k)) := by
  rcases h with ⟨_, _, _, h1⟩ | ⟨b', off, c', he, _, h3, hc, _⟩
  · omega
  · simp only [Value.slice.injEq, true_and] at he
    obtain ⟨rfl, rfl⟩ := he
    exact ⟨b', off, rfl, by omega, hc k hk⟩

end Go.Proofs.YteciobkjfmddcaaGreatDoor
set_option linter.unusedVariables false
namespace Go.Proofs.YteciobkjfmddcaaGreatDoor
open Go.RowKit

def valD (key : Int) (r : RowD) (tk fr sd : Int) : Int :=
  if key = 1 then wrap64 (r.points - tk) else if key = 5 then r.points else if key = 2 ∨ key = 6 then wrap64 (r.scored - r.against) else if key = 3 then r.scored else if key = 4 then r.wins else if key = 7 then wrap64 (-fr) else if key = 8 then wrap64 (-sd) else 0
def bookT (b : BookD) (key : Int) (gg : Nat → Int) (ng : Nat) : Nat → RowD := tabR b.win b.draw b.loss (selG (!mutualB key) gg ng) b.g b.m
def bookV (b : BookD) (key : Int) (gg : Nat → Int) (ng : Nat) (i : Nat) : Int := valD key (bookT b key gg ng i) (b.ta i) (b.fa i) (b.f i).seed
theorem row_of {w : World} {a : Option Addr} {c n j : Nat} {T : Nat → RowD} (h : RowRow w (.slice a n c) n T) (hj : j < n) : ∃ bo off, a = some ⟨bo, off, none⟩ ∧ n ≤ c ∧ CellsAt w bo (off + j * 7) (T j).cells := by
  obtain ⟨aa, cap, he, _, hc⟩ := h.form
  simp only [Value.slice.injEq, true_and] at he
  obtain ⟨bo, off, h1, h2, h3⟩ := hc (by omega)
  obtain ⟨rfl, rfl⟩ := he
  exact ⟨bo, off, h1, h2, h3 j hj⟩
def valsL (V : Nat → Int) (k : Nat) : List Int := (List.range k).map V
theorem valsL_succ (V : Nat → Int) (k : Nat) : valsL V (k + 1) = valsL V k ++ [V k] := by unfold valsL; rw [List.range_succ, List.map_append]; rfl
end Go.Proofs.YteciobkjfmddcaaGreatDoor
set_option linter.unusedVariables false
namespace Go.Proofs.YteciobkjfmddcaaGreatDoor
open Go.RowKit

theorem leadV_map {α β : Type} (h : α → β) (f : β → Int) (v : Int) : ∀ L : List α, leadV f v (L.map h) = leadV (fun x => f (h x)) v L
  | [] => rfl
  | y :: L => by
    rw [List.map_cons]
    unfold leadV
    rw [leadV_map h f v L]
def lenS (L : List (Int × List Int)) : Nat := (L.map fun x => x.2.length).sum
theorem insP_sum (v t : Int) : ∀ L, lenS (insP v t L) = lenS L + 1
  | [] => rfl
  | (u, p) :: r => by
    have ih := insP_sum v t r
    unfold lenS at ih ⊢
    unfold insP
    split
    · simp only [List.map_cons, List.sum_cons, ih]; omega
    · split
      · simp only [List.map_cons, List.sum_cons, List.length_append, List.length_cons, List.length_nil]; omega
      · simp only [List.map_cons, List.sum_cons, List.length_cons, List.length_nil]; omega
theorem insP_ne (v t : Int) : ∀ L : List (Int × List Int), (∀ x ∈ L, x.2 ≠ []) → ∀ x ∈ insP v t L, x.2 ≠ []
  | [], _, x, hx => by
    unfold insP at hx
    rw [List.mem_singleton.1 hx]; simp
  | (u, p) :: r, h, x, hx => by
    unfold insP at hx
    have hr : ∀ x ∈ r, x.2 ≠ [] := fun x hx => h x (List.mem_cons_of_mem _ hx)
    split at hx
    · rcases List.mem_cons.1 hx with rfl | hx
      · exact h _ (List.mem_cons_self ..)
      · exact insP_ne v t r hr x hx
    · split at hx
      · rcases List.mem_cons.1 hx with rfl | hx
        · simp
        · exact hr x hx
      · rcases List.mem_cons.1 hx with rfl | hx
        · simp
        · exact h x hx
theorem insP_mem (v t : Int) : ∀ L : List (Int × List Int), ∀ x ∈ insP v t L, ∀ u ∈ x.2, u = t ∨ ∃ y ∈ L, u ∈ y.2
  | [], x, hx, u, hu => by
    unfold insP at hx
    rw [List.mem_singleton.1 hx] at hu
    exact .inl (List.mem_singleton.1 hu)
  | (q, p) :: r, x, hx, u, hu => by
    unfold insP at hx
    split at hx
    · rcases List.mem_cons.1 hx with rfl | hx
      · exact .inr ⟨_, List.mem_cons_self .., hu⟩
      · rcases insP_mem v t r x hx u hu with h | ⟨y, hy, h⟩
        · exact .inl h
        · exact .inr ⟨y, List.mem_cons_of_mem _ hy, h⟩
    · split at hx
      · rcases List.mem_cons.1 hx with rfl | hx
        · rcases List.mem_append.1 hu with h | h
          · exact .inr ⟨_, List.mem_cons_self .., h⟩
          · exact .inl (List.mem_singleton.1 h)
        · exact .inr ⟨x, List.mem_cons_of_mem _ hx, hu⟩
      · rcases List.mem_cons.1 hx with rfl | hx
        · exact .inl (List.mem_singleton.1 hu)
        · exact .inr ⟨x, hx, hu⟩
theorem insP_len (v t : Int) : ∀ L, (insP v t L).length ≤ L.length + 1
  | [] => Nat.le_refl _
  | (u, p) :: r => by
    have ih := insP_len v t r
    unfold insP
    split
    · simp only [List.length_cons]; omega
    · split
      · simp only [List.length_cons]; omega
      · simp only [List.length_cons]; omega
section
variable (V gg : Nat → Int)
theorem splitP_sum : ∀ k, lenS (splitP V gg k) = k
  | 0 => rfl
  | k + 1 => by unfold splitP; rw [insP_sum, splitP_sum k]
theorem splitP_ne : ∀ k, ∀ x ∈ splitP V gg k, x.2 ≠ []
  | 0, x, hx => by cases hx
  | k + 1, x, hx => insP_ne _ _ _ (splitP_ne k) x hx
theorem splitP_mem : ∀ k, ∀ x ∈ splitP V gg k, ∀ u ∈ x.2, ∃ i, i < k ∧ u = gg i
  | 0, x, hx => by cases hx
  | k + 1, x, hx => fun u hu => by
    rcases insP_mem _ _ _ x hx u hu with h | ⟨y, hy, h⟩
    · exact ⟨k, Nat.lt_succ_self _, h⟩
    · obtain ⟨i, hi, e⟩ := splitP_mem k y hy u h
      exact ⟨i, by omega, e⟩
theorem splitP_len : ∀ k, (splitP V gg k).length ≤ k
  | 0 => Nat.le_refl _
  | k + 1 => by unfold splitP; have := insP_len (V (gg k).toNat) (gg k) (splitP V gg k); have := splitP_len k; omega
theorem splitP_congr {V' gg' : Nat → Int} : ∀ k, (∀ i, i < k → gg i = gg' i) → (∀ i, V i = V' i) → splitP V gg k = splitP V' gg' k
  | 0, _, _ => rfl
  | k + 1, h, hV => by
    unfold splitP
    rw [splitP_congr k (fun i hi => h i (by omega)) hV, h k (Nat.lt_succ_self _), hV]
end
theorem part_le {L : List (Int × List Int)} {x : Int × List Int} (h : x ∈ L) : x.2.length ≤ lenS L := by
  induction L with
  | nil => cases h
  | cons y L ih =>
    unfold lenS at ih ⊢
    rw [List.map_cons, List.sum_cons]
    rcases List.mem_cons.1 h with rfl | h
    · omega
    · have := ih h; omega
theorem sum_pos {L : List (Int × List Int)} (hne : ∀ x ∈ L, x.2 ≠ []) (h : L ≠ []) : 0 < lenS L := by
  cases L with
  | nil => exact absurd rfl h
  | cons y L =>
    unfold lenS
    rw [List.map_cons, List.sum_cons]
    have := List.length_pos_iff.2 (hne y (List.mem_cons_self ..))
    omega
theorem part_lt {L : List (Int × List Int)} {x : Int × List Int} (hne : ∀ x ∈ L, x.2 ≠ []) (h : x ∈ L) (hl : 1 < L.length) : x.2.length < lenS L := by
  cases L with
  | nil => cases h
  | cons y L =>
    have hL : L ≠ [] := by intro e; subst e; simp at hl
    have hp := sum_pos (fun x hx => hne x (List.mem_cons_of_mem _ hx)) hL
    have hy := List.length_pos_iff.2 (hne y (List.mem_cons_self ..))
    rcases List.mem_cons.1 h with rfl | h
    · unfold lenS at hp ⊢; rw [List.map_cons, List.sum_cons]; omega
    · have := part_le h
      unfold lenS at this ⊢; rw [List.map_cons, List.sum_cons]; omega
def partsL (b : BookD) (key : Int) (gg : Nat → Int) (n : Nat) : List (List Int) := (splitP (bookV b key gg n) gg n).map Prod.snd
theorem partsL_le {b : BookD} {key : Int} {gg : Nat → Int} {n : Nat} {p : List Int} (h : p ∈ partsL b key gg n) : p.length ≤ n := by
  obtain ⟨x, hx, rfl⟩ := List.mem_map.1 h
  have := part_le hx
  rw [splitP_sum] at this
  exact this
theorem partsL_lt {b : BookD} {key : Int} {gg : Nat → Int} {n : Nat} {p : List Int} (h : p ∈ partsL b key gg n) (hl : 1 < (partsL b key gg n).length) : p.length < n := by
  obtain ⟨x, hx, rfl⟩ := List.mem_map.1 h
  have := part_lt (splitP_ne _ _ _) hx (by unfold partsL at hl; rwa [List.length_map] at hl)
  rw [splitP_sum] at this
  exact this
theorem partsL_ne {b : BookD} {key : Int} {gg : Nat → Int} {n : Nat} {p : List Int} (h : p ∈ partsL b key gg n) : p ≠ [] := by
  obtain ⟨x, hx, rfl⟩ := List.mem_map.1 h
  exact splitP_ne _ _ _ x hx
theorem partsL_mem {b : BookD} {key : Int} {gg : Nat → Int} {n : Nat} {p : List Int} (h : p ∈ partsL b key gg n) : ∀ u ∈ p, ∃ i, i < n ∧ u = gg i := by
  obtain ⟨x, hx, rfl⟩ := List.mem_map.1 h
  exact splitP_mem _ _ _ x hx
theorem partsL_len {b : BookD} {key : Int} {gg : Nat → Int} {n : Nat} : (partsL b key gg n).length ≤ n := by
  unfold partsL; rw [List.length_map]; exact splitP_len _ _ _
def rankM (nl n s : Nat) : Nat := n * (nl + 1) + (nl - s)
def nextS (b : BookD) (m s : Nat) : Nat := if 1 < m ∧ b.again = true ∧ mutualB (b.l s) = true then 0 else s + 1
def rankF (b : BookD) : Nat → List Int → Nat → List (List Int)
  | 0, _, _ => []
  | f + 1, G, s => if G = [] then [] else if G.length = 1 ∨ b.nl ≤ s then [G] else
      (partsL b (b.l s) (getI G) G.length).flatMap fun p => rankF b f p (nextS b (partsL b (b.l s) (getI G) G.length).length s)
theorem rankM_lt {b : BookD} {G p : List Int} {s : Nat} (hs : s < b.nl) (h : p ∈ partsL b (b.l s) (getI G) G.length) :
    rankM b.nl p.length (nextS b (partsL b (b.l s) (getI G) G.length).length s) < rankM b.nl G.length s := by
  unfold rankM nextS
  have h1 := partsL_le h
  split
  · next hh =>
    have h2 := partsL_lt h hh.1
    have h3 : (p.length + 1) * (b.nl + 1) ≤ G.length * (b.nl + 1) := Nat.mul_le_mul_right _ h2
    have h4 : (p.length + 1) * (b.nl + 1) = p.length * (b.nl + 1) + (b.nl + 1) := Nat.succ_mul _ _
    omega
  · have h3 : p.length * (b.nl + 1) ≤ G.length * (b.nl + 1) := Nat.mul_le_mul_right _ h1
    omega
theorem rankF_fuel (b : BookD) : ∀ f f' G s, rankM b.nl G.length s < f → rankM b.nl G.length s < f' → rankF b f G s = rankF b f' G s
  | 0, _, _, _, h, _ => absurd h (Nat.not_lt_zero _)
  | _ + 1, 0, _, _, _, h => absurd h (Nat.not_lt_zero _)
  | f + 1, f' + 1, G, s, h, h' => by
    unfold rankF
    by_cases hG : G = []
    · rw [if_pos hG, if_pos hG]
    · rw [if_neg hG, if_neg hG]
      by_cases hs : G.length = 1 ∨ b.nl ≤ s
      · rw [if_pos hs, if_pos hs]
      · rw [if_neg hs, if_neg hs, List.flatMap_def, List.flatMap_def]
        congr 1
        refine List.map_congr_left fun p hp => ?_
        have := rankM_lt (b := b) (s := s) (by omega) hp
        exact rankF_fuel b f f' p _ (by omega) (by omega)
def rankP (b : BookD) (G : List Int) (s : Nat) : List (List Int) := rankF b (rankM b.nl G.length s + 1) G s
theorem rankP_nil (b : BookD) (s : Nat) : rankP b [] s = [] := by
  unfold rankP rankF; rw [if_pos rfl]
theorem rankP_one (b : BookD) {G : List Int} {s : Nat} (hG : G ≠ []) (h : G.length = 1 ∨ b.nl ≤ s) : rankP b G s = [G] := by
  unfold rankP rankF; rw [if_neg hG, if_pos h]
theorem rankP_step (b : BookD) {G : List Int} {s : Nat} (hG : G ≠ []) (h1 : G.length ≠ 1) (hs : s < b.nl) :
    rankP b G s = (partsL b (b.l s) (getI G) G.length).flatMap fun p => rankP b p (nextS b (partsL b (b.l s) (getI G) G.length).length s) := by
  unfold rankP
  conv => lhs; unfold rankF
  rw [if_neg hG, if_neg (by omega), List.flatMap_def, List.flatMap_def]
  congr 1
  refine List.map_congr_left fun p hp => ?_
  exact rankF_fuel b _ _ p _ (rankM_lt hs hp) (Nat.lt_succ_self _)
end Go.Proofs.YteciobkjfmddcaaGreatDoor
