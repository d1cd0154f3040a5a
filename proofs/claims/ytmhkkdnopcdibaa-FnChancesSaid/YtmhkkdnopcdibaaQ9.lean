/-
  Packed: Await, Tables3, Keys, RulesOk, Tables4.
-/
import Derived.Deep.RegionHeld3
import Derived.Test.YtmhkkdnopcdibaaQ1
import Derived.Test.YtmhkkdnopcdibaaQ5
import Derived.Test.YtmhkkdnopcdibaaQ6
import Derived.Test.YtmhkkdnopcdibaaQ8
set_option linter.unusedVariables false
namespace Go.Proofs.Ytmhkkdnopcdibaa
section
variable {P : Program} {ops : Array Oper} {Q : Exit → Act → World → Prop} {md : Region.Mode} {S : Array Bool → World → Prop}

def Await (P : Program) (md : Region.Mode) (ops : Array Oper) (Q : Exit → Act → World → Prop) (S : Array Bool → World → Prop) : Nat → Array Bool → Act → World → Prop
  | 0, l, a, w => Region.ready md ops l = [] ∧ Q .normal a w
  | n + 1, l, a, w => (Region.ready md ops l = [] → Q .normal a w) ∧
      ∀ i ∈ Region.ready md ops l, wpOp P ops Q i (fun a' w' => S (l.setIfInBounds i true) w' ∧ Await P md ops Q S n (l.setIfInBounds i true) a' w') a w
theorem Await.any : ∀ (n : Nat) (l : Array Bool) (a : Act) (w : World), Await P md ops Q S n l a w → wpAny P md ops Q n l a w
  | 0, _, _, _, h => h
  | n + 1, _, _, _, h => ⟨h.1, fun i hi => wpOp_mono (fun a' w' h' => Await.any n _ a' w' h'.2) (h.2 i hi)⟩
def Until (st : Nat) (F : World → Prop) (l : Array Bool) (w : World) : Prop := l.getD st true = false → F w
theorem getD_set {l : Array Bool} {j k : Nat} (h : (l.setIfInBounds j true).getD k true = false) : l.getD k true = false := by
  by_cases e : j = k
  · subst e
    by_cases hj : j < l.size
    · rw [Array.getD_eq_getD_getElem?, Array.getElem?_setIfInBounds_self_of_lt hj] at h; cases h
    · rw [Array.setIfInBounds_eq_of_size_le (by omega)] at h; exact h
  · rw [getD_set_ne true e] at h; exact h
def waitsFor (md : Region.Mode) (ops : Array Oper) (j i : Nat) : Bool := match ops[j]? with
  | some o => o.after.any fun e => Region.binds md e && e.on == i
  | none => false
theorem waits_not_ready {j i : Nat} {l : Array Bool} (h : waitsFor md ops j i = true) (hi : l.getD i false = false) : j ∉ Region.ready md ops l := fun hj => by
  obtain ⟨_, oj, hoj, hall⟩ := mem_ready.1 hj
  unfold waitsFor at h
  rw [hoj] at h
  simp only [Array.any_eq_true', Bool.and_eq_true, beq_iff_eq] at h
  obtain ⟨e, he, hb, heq⟩ := h
  have := hall e he hb
  rw [heq] at this
  rw [hi] at this
  cases this
theorem Await.first {st p : Nat} {F : World → Prop} {G : World → Prop} {i : Nat} {oi : Oper} {v : Value} (hist : i ≠ st) (hi : ops[i]? = some oi) (hsel : Region.noSelect ops = true)
    (hQ : ∀ c a w, Q (.panic c) (a.put oi.dst v) w → Q (.panic c) a w) (hFG : (∀ w, F w → G w) ∧ waitsFor md ops p i = true ∧ waitsFor md ops st p = true ∧ p < ops.size ∧ i < ops.size ∨ ∀ w, G w) :
    ∀ (n : Nat) (l : Array Bool) (a : Act) (w : World), l.size = ops.size →
      (∀ j oj, ops[j]? = some oj → j ≠ i → l.getD j true = false → (∀ e ∈ oj.after, Region.binds md e = true → e.on ≠ i) → oi.apart ops oj = true) →
      i ∈ Region.ready md ops l → YieldsIf P ops G oi v a → Until st F l w → ((∀ w, G w) ∨ (l.getD p true = false ∧ l.getD st true = false)) →
      Await P md ops Q (Until st F) n (l.setIfInBounds i true) (a.put oi.dst v) w → Await P md ops Q (Until st F) (n + 1) l a w := by
  have hsel' := Region.noSelect_spec hsel
  have hG : ∀ (l : Array Bool) (w : World), Until st F l w → ((∀ w, G w) ∨ (l.getD p true = false ∧ l.getD st true = false)) → G w := fun l w hU hp => by
    rcases hFG with ⟨hh, _⟩ | hh
    · rcases hp with hp | hp
      · exact hp w
      · exact hh w (hU hp.2)
    · exact hh w
  intro n
  induction n with
  | zero =>
    intro l a w _ _ hr hy hS hp H
    refine ⟨fun h => (by rw [h] at hr; cases hr), fun j hj => ?_⟩
    by_cases hji : j = i
    · subst hji; exact hy.wpOp hi (hG l w hS hp) ⟨fun h => hS (getD_set h), H⟩
    · have := ready_mono hj hji
      rw [H.1] at this
      cases this
  | succ n ih =>
    intro l a w hsz hfree hr hy hS hp H
    refine ⟨fun h => (by rw [h] at hr; cases hr), fun j hj => ?_⟩
    by_cases hji : j = i
    · subst hji; exact hy.wpOp hi (hG l w hS hp) ⟨fun h => hS (getD_set h), H⟩
    · have h1 := H.2 j (ready_mono hj hji)
      obtain ⟨hjun, oj, hoj, hall⟩ := mem_ready.1 hj
      have hil := (mem_ready.1 hr).1
      have hnot : ∀ e ∈ oj.after, Region.binds md e = true → e.on ≠ i := fun e he hb heq => by
        have h1 := hall e he hb
        have h0 := hil
        rw [heq] at h1
        rcases Nat.lt_or_ge i l.size with h' | h'
        · simp [h'] at h0 h1; rw [h0] at h1; cases h1
        · simp [Array.getElem?_eq_none h'] at h1
      have h2 := wpOp_putIf hoj (hfree j oj hoj hji hjun hnot) (fun cs b => hsel' i oi cs b hi) (fun cs b => hsel' j oj cs b hoj) hQ hy h1
      have hfree' : ∀ k ok, ops[k]? = some ok → k ≠ i → (l.setIfInBounds j true).getD k true = false → (∀ e ∈ ok.after, Region.binds md e = true → e.on ≠ i) → oi.apart ops ok = true := fun k ok hk hki hun hno => by
        refine hfree k ok hk hki ?_ hno
        by_cases hjk : j = k
        · subst hjk; exact hjun
        · rw [getD_set_ne true hjk] at hun; exact hun
      have hp' : (∀ w, G w) ∨ ((l.setIfInBounds j true).getD p true = false ∧ (l.setIfInBounds j true).getD st true = false) := by
        rcases hp with hp | ⟨hp1, hp2⟩
        · exact .inl hp
        · rcases hFG with ⟨_, hpi, hsp, hpl, hil2⟩ | hh
          · have toF : ∀ k, k < ops.size → l.getD k true = false → l.getD k false = false := fun k hk h => by
              rw [← h]; simp [Array.getD, hsz, hk]
            have n1 : j ≠ p := fun e => waits_not_ready hpi (toF i hil2 hil) (e ▸ hj)
            have n2 : j ≠ st := fun e => waits_not_ready hsp (toF p hpl hp1) (e ▸ hj)
            exact .inr ⟨by rw [getD_set_ne true n1]; exact hp1, by rw [getD_set_ne true n2]; exact hp2⟩
          · exact .inl hh
      refine wpOp_mono (fun a' w' h3 => ?_) h2
      obtain ⟨hy', hU, hA⟩ := h3
      have hr' := ready_mono hr (Ne.symm hji)
      have hU' : Until st F (l.setIfInBounds j true) w' := fun hl => hU (by
        rw [Array.setIfInBounds_comm _ _ (Ne.symm hji), getD_set_ne true hist]; exact hl)
      refine ⟨hU', ih (l.setIfInBounds j true) a' w' (by simpa using hsz) hfree' hr' hy' hU' hp' ?_⟩
      rw [Array.setIfInBounds_comm _ _ hji]
      exact hA
theorem Await.take {st p i n : Nat} {F : World → Prop} {oi : Oper} {v : Value} {l : Array Bool} {a : Act} {w : World} (hi : ops[i]? = some oi) (hs : Region.noSelect ops = true) (hf : Region.free md ops l i = true) (hr : (Region.ready md ops l).contains i = true)
    (hw : (waitsFor md ops p i && waitsFor md ops st p && decide (p < ops.size) && decide (i < ops.size) && decide (i ≠ st) && decide (l.size = ops.size) && !l.getD p true && !l.getD st true) = true)
    (hQ : ∀ c a w, Q (.panic c) (a.put oi.dst v) w → Q (.panic c) a w) (hy : YieldsIf P ops F oi v a) (hS : Until st F l w)
    (h : Await P md ops Q (Until st F) n (l.setIfInBounds i true) (a.put oi.dst v) w) : Await P md ops Q (Until st F) (n + 1) l a w := by
  simp only [Bool.and_eq_true, decide_eq_true_eq, Bool.not_eq_true'] at hw
  obtain ⟨⟨⟨⟨⟨⟨⟨h1, h2⟩, h3⟩, h4⟩, h5⟩, h6⟩, h7⟩, h8⟩ := hw
  exact Await.first (p := p) (G := F) h5 hi hs hQ (.inl ⟨fun _ h => h, h1, h2, h3, h4⟩) n l a w h6 (Region.free_spec hi hf) (by simpa using hr) hy hS (.inr ⟨h7, h8⟩) h
theorem Await.pure {st i n : Nat} {F : World → Prop} {oi : Oper} {v : Value} {l : Array Bool} {a : Act} {w : World} (hi : ops[i]? = some oi) (hs : Region.noSelect ops = true) (hf : Region.free md ops l i = true) (hr : (Region.ready md ops l).contains i = true)
    (hw : (decide (i ≠ st) && decide (l.size = ops.size)) = true)
    (hQ : ∀ c a w, Q (.panic c) (a.put oi.dst v) w → Q (.panic c) a w) (hy : YieldsIf P ops (fun _ => True) oi v a) (hS : Until st F l w)
    (h : Await P md ops Q (Until st F) n (l.setIfInBounds i true) (a.put oi.dst v) w) : Await P md ops Q (Until st F) (n + 1) l a w := by
  simp only [Bool.and_eq_true, decide_eq_true_eq] at hw
  exact Await.first (p := 0) (G := fun _ => True) hw.1 hi hs hQ (.inr fun _ => trivial) n l a w hw.2 (Region.free_spec hi hf) (by simpa using hr) hy hS (.inl fun _ => trivial) h
def chainW (md : Region.Mode) (ops : Array Oper) (st : Nat) : Nat → List Nat → Bool
  | i, [] => waitsFor md ops st i
  | i, p :: ps => waitsFor md ops p i && chainW md ops st p ps
theorem chain_not_ready {st j : Nat} {l : Array Bool} (hj : j ∈ Region.ready md ops l) : ∀ (ps : List Nat) (i : Nat), chainW md ops st i ps = true → l.getD i false = false → (∀ k ∈ ps, l.getD k false = false) → j ≠ st ∧ ∀ k ∈ ps, j ≠ k
  | [], i, h, hi, _ => ⟨fun e => waits_not_ready h hi (e ▸ hj), fun k hk => by cases hk⟩
  | p :: ps, i, h, hi, hp => by
    unfold chainW at h
    simp only [Bool.and_eq_true] at h
    have hpu := hp p (by simp)
    have h2 := chain_not_ready hj ps p h.2 hpu fun k hk => hp k (by simp [hk])
    refine ⟨h2.1, fun k hk => ?_⟩
    rcases List.mem_cons.1 hk with rfl | hk
    · exact fun e => waits_not_ready h.1 hi (e ▸ hj)
    · exact h2.2 k hk
theorem Await.firsts {st : Nat} {ps : List Nat} {F : World → Prop} {i : Nat} {oi : Oper} {v : Value} (hist : i ≠ st) (hi : ops[i]? = some oi) (hsel : Region.noSelect ops = true)
    (hQ : ∀ c a w, Q (.panic c) (a.put oi.dst v) w → Q (.panic c) a w) (hch : chainW md ops st i ps = true) (hpl : ∀ k ∈ ps, k < ops.size) (hil2 : i < ops.size) :
    ∀ (n : Nat) (l : Array Bool) (a : Act) (w : World), l.size = ops.size →
      (∀ j oj, ops[j]? = some oj → j ≠ i → l.getD j true = false → (∀ e ∈ oj.after, Region.binds md e = true → e.on ≠ i) → oi.apart ops oj = true) →
      i ∈ Region.ready md ops l → YieldsIf P ops F oi v a → Until st F l w → ((∀ k ∈ ps, l.getD k true = false) ∧ l.getD st true = false) →
      Await P md ops Q (Until st F) n (l.setIfInBounds i true) (a.put oi.dst v) w → Await P md ops Q (Until st F) (n + 1) l a w := by
  have hsel' := Region.noSelect_spec hsel
  intro n
  induction n with
  | zero =>
    intro l a w _ _ hr hy hS hp H
    refine ⟨fun h => (by rw [h] at hr; cases hr), fun j hj => ?_⟩
    by_cases hji : j = i
    · subst hji; exact hy.wpOp hi (hS hp.2) ⟨fun h => hS (getD_set h), H⟩
    · have := ready_mono hj hji
      rw [H.1] at this
      cases this
  | succ n ih =>
    intro l a w hsz hfree hr hy hS hp H
    refine ⟨fun h => (by rw [h] at hr; cases hr), fun j hj => ?_⟩
    by_cases hji : j = i
    · subst hji; exact hy.wpOp hi (hS hp.2) ⟨fun h => hS (getD_set h), H⟩
    · have h1 := H.2 j (ready_mono hj hji)
      obtain ⟨hjun, oj, hoj, hall⟩ := mem_ready.1 hj
      have hil := (mem_ready.1 hr).1
      have hnot : ∀ e ∈ oj.after, Region.binds md e = true → e.on ≠ i := fun e he hb heq => by
        have h1 := hall e he hb
        have h0 := hil
        rw [heq] at h1
        rcases Nat.lt_or_ge i l.size with h' | h'
        · simp [h'] at h0 h1; rw [h0] at h1; cases h1
        · simp [Array.getElem?_eq_none h'] at h1
      have h2 := wpOp_putIf hoj (hfree j oj hoj hji hjun hnot) (fun cs b => hsel' i oi cs b hi) (fun cs b => hsel' j oj cs b hoj) hQ hy h1
      have hfree' : ∀ k ok, ops[k]? = some ok → k ≠ i → (l.setIfInBounds j true).getD k true = false → (∀ e ∈ ok.after, Region.binds md e = true → e.on ≠ i) → oi.apart ops ok = true := fun k ok hk hki hun hno => by
        refine hfree k ok hk hki ?_ hno
        by_cases hjk : j = k
        · subst hjk; exact hjun
        · rw [getD_set_ne true hjk] at hun; exact hun
      have toF : ∀ k, k < ops.size → l.getD k true = false → l.getD k false = false := fun k hk h => by
        rw [← h]; simp [Array.getD, hsz, hk]
      have hnr := chain_not_ready hj ps i hch (toF i hil2 hil) fun k hk => toF k (hpl k hk) (hp.1 k hk)
      have hp' : (∀ k ∈ ps, (l.setIfInBounds j true).getD k true = false) ∧ (l.setIfInBounds j true).getD st true = false :=
        ⟨fun k hk => by rw [getD_set_ne true (hnr.2 k hk)]; exact hp.1 k hk, by rw [getD_set_ne true hnr.1]; exact hp.2⟩
      refine wpOp_mono (fun a' w' h3 => ?_) h2
      obtain ⟨hy', hU, hA⟩ := h3
      have hr' := ready_mono hr (Ne.symm hji)
      have hU' : Until st F (l.setIfInBounds j true) w' := fun hl => hU (by
        rw [Array.setIfInBounds_comm _ _ (Ne.symm hji), getD_set_ne true hist]; exact hl)
      refine ⟨hU', ih (l.setIfInBounds j true) a' w' (by simpa using hsz) hfree' hr' hy' hU' hp' ?_⟩
      rw [Array.setIfInBounds_comm _ _ hji]
      exact hA
theorem Await.takes {st i n : Nat} (ps : List Nat) {F : World → Prop} {oi : Oper} {v : Value} {l : Array Bool} {a : Act} {w : World} (hi : ops[i]? = some oi) (hs : Region.noSelect ops = true) (hf : Region.free md ops l i = true) (hr : (Region.ready md ops l).contains i = true)
    (hw : (chainW md ops st i ps && ps.all (fun k => decide (k < ops.size) && !l.getD k true) && decide (i < ops.size) && decide (i ≠ st) && decide (l.size = ops.size) && !l.getD st true) = true)
    (hQ : ∀ c a w, Q (.panic c) (a.put oi.dst v) w → Q (.panic c) a w) (hy : YieldsIf P ops F oi v a) (hS : Until st F l w)
    (h : Await P md ops Q (Until st F) n (l.setIfInBounds i true) (a.put oi.dst v) w) : Await P md ops Q (Until st F) (n + 1) l a w := by
  simp only [Bool.and_eq_true, decide_eq_true_eq, Bool.not_eq_true', List.all_eq_true] at hw
  obtain ⟨⟨⟨⟨⟨h1, h2⟩, h4⟩, h5⟩, h6⟩, h8⟩ := hw
  exact Await.firsts (ps := ps) h5 hi hs hQ h1 (fun k hk => (h2 k hk).1) h4 n l a w h6 (Region.free_spec hi hf) (by simpa using hr) hy hS ⟨fun k hk => (h2 k hk).2, h8⟩ h
theorem Await.step {i n : Nat} {o : Oper} {l : Array Bool} {a : Act} {w : World} (hr : Region.ready md ops l = [i]) (ho : ops[i]? = some o)
    (h : ∀ K' : Act → World → Prop, Shut (∀ a w, S (l.setIfInBounds i true) w → (S (l.setIfInBounds i true) w → Await P md ops Q S n (l.setIfInBounds i true) a w) → K' a w) →
      if Region.wanted o (yielded ops a.tmps) = true then Oper.wp P o a w K' Q else K' (a.put o.dst undef) w) : Await P md ops Q S (n + 1) l a w := by
  refine ⟨fun h0 => (by rw [hr] at h0; cases h0), fun j hj => ?_⟩
  rw [hr] at hj
  obtain rfl := List.mem_singleton.1 hj
  exact wpOp_step ho (fun K' hK => h K' (fun a w hS hW => hK a w ⟨hS, hW hS⟩))
theorem Await.done {l : Array Bool} {a : Act} {w : World} (hr : Region.ready md ops l = []) (h : Q .normal a w) : ∀ n, Await P md ops Q S n l a w
  | 0 => ⟨hr, h⟩
  | _ + 1 => ⟨fun _ => h, by rw [hr]; simp⟩
theorem Await.begin {id : Nat} {a : Act} {w : World} (hm : P.follows .mixedOrders = true) (hS : S (Array.replicate ops.size false) w.drew)
    (h : S (Array.replicate ops.size false) w.drew → Await P .any ops Q S ops.size (Array.replicate ops.size false) a w.drew) : (Code.region id ops true).wp P Q a w :=
  wp_region_any hm (Await.any _ _ _ _ (h hS))
theorem Until.over {st : Nat} {F : World → Prop} {l : Array Bool} {w : World} (h : l.getD st true = true) : Until st F l w := fun h' => by rw [h] at h'; cases h'
theorem Until.of {st : Nat} {F : World → Prop} {l : Array Bool} {w : World} (h : F w) : Until st F l w := fun _ => h
end
end Go.Proofs.Ytmhkkdnopcdibaa
set_option linter.unusedVariables false
namespace Go.Proofs.Ytmhkkdnopcdibaa
open Go.RowKit

def homeR (win draw loss : Int) (x : GameD) : RowD :=
  if outcomeD x = 1 then ⟨1, 1, 0, 0, (goalsD x).1, (goalsD x).2.1, win⟩ else if outcomeD x = 2 then ⟨1, 0, 1, 0, (goalsD x).1, (goalsD x).2.1, draw⟩ else ⟨1, 0, 0, 1, (goalsD x).1, (goalsD x).2.1, loss⟩
def awayR (win draw loss : Int) (x : GameD) : RowD :=
  if outcomeD x = 1 then ⟨1, 0, 0, 1, (goalsD x).2.1, (goalsD x).1, loss⟩ else if outcomeD x = 2 then ⟨1, 0, 1, 0, (goalsD x).2.1, (goalsD x).1, draw⟩ else ⟨1, 1, 0, 0, (goalsD x).2.1, (goalsD x).1, win⟩
def putR (r : Nat → RowD) (t : Nat) (y : RowD) : Nat → RowD := fun i => if i = t then y else r i
def addG (win draw loss : Int) (r : Nat → RowD) (x : GameD) : Nat → RowD :=
  if (goalsD x).2.2 = true then
    putR (putR r x.home.toNat (addW (r x.home.toNat) (homeR win draw loss x))) x.away.toNat (addW (putR r x.home.toNat (addW (r x.home.toNat) (homeR win draw loss x)) x.away.toNat) (awayR win draw loss x))
  else r
theorem outcome_cases (x : GameD) (h : (goalsD x).2.2 = true) : outcomeD x = 1 ∨ outcomeD x = 2 ∨ outcomeD x = 3 := by
  unfold outcomeD
  rw [if_pos h]
  split
  · exact .inl rfl
  · split
    · exact .inr (.inl rfl)
    · exact .inr (.inr rfl)
theorem homeR_is (win draw loss : Int) (x : GameD) : (outcomeD x = 1 → homeR win draw loss x = ⟨1, 1, 0, 0, (goalsD x).1, (goalsD x).2.1, win⟩) ∧ (outcomeD x = 2 → homeR win draw loss x = ⟨1, 0, 1, 0, (goalsD x).1, (goalsD x).2.1, draw⟩) ∧ (outcomeD x = 3 → homeR win draw loss x = ⟨1, 0, 0, 1, (goalsD x).1, (goalsD x).2.1, loss⟩) := by
  unfold homeR
  exact ⟨fun h => by rw [if_pos h], fun h => by rw [if_neg (by omega), if_pos h], fun h => by rw [if_neg (by omega), if_neg (by omega)]⟩
theorem awayR_is (win draw loss : Int) (x : GameD) : (outcomeD x = 1 → awayR win draw loss x = ⟨1, 0, 0, 1, (goalsD x).2.1, (goalsD x).1, loss⟩) ∧ (outcomeD x = 2 → awayR win draw loss x = ⟨1, 0, 1, 0, (goalsD x).2.1, (goalsD x).1, draw⟩) ∧ (outcomeD x = 3 → awayR win draw loss x = ⟨1, 1, 0, 0, (goalsD x).2.1, (goalsD x).1, win⟩) := by
  unfold awayR
  exact ⟨fun h => by rw [if_pos h], fun h => by rw [if_neg (by omega), if_pos h], fun h => by rw [if_neg (by omega), if_neg (by omega)]⟩
theorem cells_put {n t : Nat} {xs : List Value} {r : Nat → RowD} {y : RowD} (h : RecCells 7 n xs fun i => (r i).cells) (hl : xs.length = n * 7) (ht : t < n) :
    RecCells 7 n (setsFrom xs (t * 7) y.cells) fun i => (putR r t y i).cells :=
  RecCells.congr (cells_update h hl ht rfl fun _ _ => Nat.le_refl _) fun i _ => by unfold putR; by_cases e : i = t <;> simp [e]
theorem touch_put {a w : World} {lo hi gg t : Nat} {y : RowD} (h : Touch lo hi a w) (h1 : lo ≤ gg) (h2 : gg < hi) : Touch lo hi a (((((((w.setCell ⟨gg, t * 7, none⟩ (Value.int .i64 y.played)).setCell ⟨gg, t * 7 + 1, none⟩ (Value.int .i64 y.wins)).setCell ⟨gg, t * 7 + 2, none⟩ (Value.int .i64 y.draws)).setCell ⟨gg, t * 7 + 3, none⟩ (Value.int .i64 y.losses)).setCell ⟨gg, t * 7 + 4, none⟩ (Value.int .i64 y.scored)).setCell ⟨gg, t * 7 + 5, none⟩ (Value.int .i64 y.against)).setCell ⟨gg, t * 7 + 6, none⟩ (Value.int .i64 y.points)) :=
  Touch.setCell (Touch.setCell (Touch.setCell (Touch.setCell (Touch.setCell (Touch.setCell (Touch.setCell (h) ⟨gg, t * 7, none⟩ (Value.int .i64 y.played) h1 h2) ⟨gg, t * 7 + 1, none⟩ (Value.int .i64 y.wins) h1 h2) ⟨gg, t * 7 + 2, none⟩ (Value.int .i64 y.draws) h1 h2) ⟨gg, t * 7 + 3, none⟩ (Value.int .i64 y.losses) h1 h2) ⟨gg, t * 7 + 4, none⟩ (Value.int .i64 y.scored) h1 h2) ⟨gg, t * 7 + 5, none⟩ (Value.int .i64 y.against) h1 h2) ⟨gg, t * 7 + 6, none⟩ (Value.int .i64 y.points) h1 h2

theorem box_put {w : World} {B gg t : Nat} {cs : List Value} {y : RowD} (h : BoxN w B cs) (hB : B ≠ gg) : BoxN (((((((w.setCell ⟨gg, t * 7, none⟩ (Value.int .i64 y.played)).setCell ⟨gg, t * 7 + 1, none⟩ (Value.int .i64 y.wins)).setCell ⟨gg, t * 7 + 2, none⟩ (Value.int .i64 y.draws)).setCell ⟨gg, t * 7 + 3, none⟩ (Value.int .i64 y.losses)).setCell ⟨gg, t * 7 + 4, none⟩ (Value.int .i64 y.scored)).setCell ⟨gg, t * 7 + 5, none⟩ (Value.int .i64 y.against)).setCell ⟨gg, t * 7 + 6, none⟩ (Value.int .i64 y.points)) B cs := (BoxN.elsewhere (BoxN.elsewhere (BoxN.elsewhere (BoxN.elsewhere (BoxN.elsewhere (BoxN.elsewhere (BoxN.elsewhere h (D := gg) (t * 7) (Value.int .i64 y.played) hB) (D := gg) (t * 7 + 1) (Value.int .i64 y.wins) hB) (D := gg) (t * 7 + 2) (Value.int .i64 y.draws) hB) (D := gg) (t * 7 + 3) (Value.int .i64 y.losses) hB) (D := gg) (t * 7 + 4) (Value.int .i64 y.scored) hB) (D := gg) (t * 7 + 5) (Value.int .i64 y.against) hB) (D := gg) (t * 7 + 6) (Value.int .i64 y.points) hB)

end Go.Proofs.Ytmhkkdnopcdibaa
set_option linter.unusedVariables false
namespace Go.Proofs.Ytmhkkdnopcdibaa
open Go.RowKit

theorem barr_ne {x y : ByteArray} (h : x ≠ y) : (x.toList == y.toList) = false := by
  rw [beq_eq_false_iff_ne, ne_eq, ByteArray.toList_eq, ByteArray.toList_eq]
  exact fun e => h (ByteArray.ext (Array.toList_inj.mp e))
def knm (k : Nat) : ByteArray := match k with
  | 1 => ⟨#[112, 111, 105, 110, 116, 115]⟩
  | 2 => ⟨#[100, 105, 102, 102, 101, 114, 101, 110, 99, 101]⟩
  | 3 => ⟨#[115, 99, 111, 114, 101, 100]⟩
  | 4 => ⟨#[119, 105, 110, 115]⟩
  | 5 => ⟨#[109, 117, 116, 117, 97, 108]⟩
  | 6 => ⟨#[109, 117, 116, 117, 97, 108, 100, 105, 102, 102, 101, 114, 101, 110, 99, 101]⟩
  | 7 => ⟨#[102, 97, 105, 114]⟩
  | 8 => ⟨#[115, 101, 101, 100]⟩
  | _ => ⟨#[]⟩
def knmI (k : Int) : ByteArray := if 1 ≤ k ∧ k ≤ 8 then knm k.toNat else ⟨#[]⟩
def keyLead (s : ByteArray) : Nat → Nat → Nat
  | 0, _ => 0
  | r + 1, k => if knm k = s then k else keyLead s r (k + 1)
def mutualB (k : Int) : Bool := decide (k = 5 ∨ k = 6)
end Go.Proofs.Ytmhkkdnopcdibaa
set_option linter.unusedVariables false
namespace Go.Proofs.Ytmhkkdnopcdibaa
open Go.RowKit

def ladP (n : Nat) (g : Nat → Int) : Prop := (1 ≤ (n : Int) ∧ (n : Int) ≤ 8) ∧ ∀ i, i < n → (1 ≤ g i ∧ g i ≤ 8) ∧ ¬ hasP g (g i) i
def rulesP (win draw loss : Int) (n : Nat) (g : Nat → Int) : Prop := (0 ≤ win ∧ win ≤ 10) ∧ (0 ≤ draw ∧ draw ≤ win) ∧ (0 ≤ loss ∧ loss ≤ draw) ∧ ladP n g
end Go.Proofs.Ytmhkkdnopcdibaa
set_option linter.unusedVariables false
namespace Go.Proofs.Ytmhkkdnopcdibaa
open Go.RowKit

def hasB (g : Nat → Int) (n : Nat) (x : Int) : Bool := (List.range n).any fun j => g j == x
theorem hasB_iff {g : Nat → Int} {n : Nat} {x : Int} : hasB g n x = true ↔ hasP g x n := by
  unfold hasB hasP
  simp
theorem l02Has_any (v : Value) (n : Nat) (g : Nat → Int) (x : Int) (w : World) (h : IntRow w v n g) :
    Calls Try.prog 60 #[v, .int .i64 x] w fun e w' => e = .returned (.bool (hasB g n x)) ∧ w = w' := by
  cases hb : hasB g n x with
  | true => exact l02Has_yes v n g x w h (hasB_iff.1 hb)
  | false => exact l02Has_no v n g x w h fun hp => by rw [hasB_iff.2 hp] at hb; cases hb
def selG (all : Bool) (gg : Nat → Int) (ng : Nat) (x : GameD) : Bool := all || (hasB gg ng x.home && hasB gg ng x.away)
def tabR (win draw loss : Int) (sel : GameD → Bool) (g : Nat → GameD) : Nat → Nat → RowD
  | 0 => fun _ => zeroR
  | k + 1 => if sel (g k) = true then addG win draw loss (tabR win draw loss sel g k) (g k) else tabR win draw loss sel g k
theorem made_rows (n : Nat) : RecCells 7 n (madeCells (Value.agg #[.int .i64 0, .int .i64 0, .int .i64 0, .int .i64 0, .int .i64 0, .int .i64 0, .int .i64 0]).cells (n * 7)).toList (fun _ => zeroR.cells) := by
  intro i hi j u hu
  have hj : j < 7 := by have := (List.getElem?_eq_some_iff.1 hu).1; simpa [RowD.cells] using this
  have hu0 : u = .int .i64 0 := by
    have : j = 0 ∨ j = 1 ∨ j = 2 ∨ j = 3 ∨ j = 4 ∨ j = 5 ∨ j = 6 := by omega
    rcases this with rfl | rfl | rfl | rfl | rfl | rfl | rfl <;> (simp [RowD.cells, zeroR] at hu; exact hu.symm)
  subst hu0
  have hlt : i * 7 + j < n * 7 := by omega
  have hz : ∀ t, t < 7 → (#[Value.int .i64 0, .int .i64 0, .int .i64 0, .int .i64 0, .int .i64 0, .int .i64 0, .int .i64 0])[t]! = Value.int .i64 0 := by
    intro t ht
    have : t = 0 ∨ t = 1 ∨ t = 2 ∨ t = 3 ∨ t = 4 ∨ t = 5 ∨ t = 6 := by omega
    rcases this with rfl | rfl | rfl | rfl | rfl | rfl | rfl <;> rfl
  have hc : (Value.agg #[.int .i64 0, .int .i64 0, .int .i64 0, .int .i64 0, .int .i64 0, .int .i64 0, .int .i64 0]).cells = #[Value.int .i64 0, .int .i64 0, .int .i64 0, .int .i64 0, .int .i64 0, .int .i64 0, .int .i64 0] := rfl
  rw [hc, Array.getElem?_toList]
  unfold madeCells
  rw [Array.getElem?_map, Array.getElem?_range, if_pos hlt]
  simp only [Option.map_some]
  exact congrArg some (hz _ (Nat.mod_lt _ (by decide)))

theorem boolEx (p : Prop) : ∃ R : Bool, R = true ↔ p := by
  by_cases h : p
  · exact ⟨true, fun _ => h, fun _ => rfl⟩
  · exact ⟨false, (fun e => by cases e), fun e => absurd e h⟩

def tabP (win draw loss : Int) (nl : Nat) (gl : Nat → Int) (n : Int) (m : Nat) (g : Nat → GameD) : Prop := rulesP win draw loss nl gl ∧ (2 ≤ n ∧ n ≤ 8) ∧ seasonP n m g
theorem made_none {w w' : World} {k : Nat} {T : TypeId} {g : Nat → List Value} (hb : Below w.heap.size w w') : RecMade k T w 0 g (.returned (.slice none 0 0)) w' :=
  ⟨_, rfl, .inl ⟨_, _, rfl, rfl⟩, ⟨_, World.ownsRow_nil _ _ _ _⟩, hb⟩

end Go.Proofs.Ytmhkkdnopcdibaa
