/-
  Packed: FieldMake, Await, BookMake, BookMake2, Games2.
-/
import Derived.Deep.RegionHeld3
import Derived.Deep.AppendLies
import Derived.Test.YtojkonhhaamodaaQ1
import Derived.Test.YtojkonhhaamodaaQ2
import Derived.Test.YtojkonhhaamodaaQ3
set_option linter.unusedVariables false
namespace Go.Proofs.Ytojkonhhaamodaa
open Go.RowKit

theorem Cur.below {B : Nat} {a : Option Addr} {len cap : Nat} {g : Nat → Nat} {w w' : World} (h : Cur B a len cap g w) (hb : Below w.heap.size w w') : Cur B a len cap g w' := by
  obtain ⟨i, x, hh, hi⟩ := h.blk
  have hlt : B < w.heap.size := (Array.getElem?_eq_some_iff.1 hh).1
  refine ⟨⟨i, x, (hb.block B hlt).trans hh, hi⟩, h.row.below hb (Nat.le_refl _), h.low, h.small, h.fits⟩
theorem Cur.lt {B : Nat} {a : Option Addr} {len cap : Nat} {g : Nat → Nat} {w : World} (h : Cur B a len cap g w) : B < w.heap.size := by
  obtain ⟨i, x, hh, hi⟩ := h.blk
  exact (Array.getElem?_eq_some_iff.1 hh).1
theorem Cur.belowB {B base : Nat} {a : Option Addr} {len cap : Nat} {g : Nat → Nat} {w w' : World} (h : Cur B a len cap g w) (hb : Below base w w') (hB : B < base) : Cur B a len cap g w' := by
  obtain ⟨i, x, hh, hi⟩ := h.blk
  refine ⟨⟨i, x, (hb.block B hB).trans hh, hi⟩, fun h0 => ?_, h.low, h.small, h.fits⟩
  obtain ⟨b, off, h1, h2⟩ := h.row h0
  have := h.low h0 b off h1
  exact ⟨b, off, h1, fun i hi => (hb.cell (p := ⟨b, off + i, none⟩) (show b < base by omega)).trans (h2 i hi)⟩
/-- the name of team number i that is made -/
def madeNm (i : Nat) : ByteArray := ⟨#[116]⟩ ++ ⟨(Lib.itoa (i : Int)).toArray⟩
def MadeF (n turn : Nat) (G : Nat → TeamD) (k : Nat) : Prop := ∀ i, i < k → (G i).nm = madeNm i ∧ (0 ≤ (G i).club ∧ (G i).club ≤ 3) ∧ (G i).seed = (((i + turn) % n : Nat) : Int) + 1
def FieldMade (B : Nat) (a : Option Addr) (len cap : Nat) (g : Nat → Nat) (n : Nat) (w : World) (e : Ending) (w' : World) : Prop :=
  ∃ v G turn xs, e = .returned v ∧ turn < n ∧ MadeF n turn G n ∧ w'.ownsRow w.heap.size 100 3 v n xs ∧
    (∀ t, t < n → xs[t * 3]? = some (.string (G t).nm) ∧ xs[t * 3 + 1]? = some (.int .i64 (G t).club) ∧ xs[t * 3 + 2]? = some (.int .i64 (G t).seed)) ∧ Cur B a len cap g w' ∧ w.grownBy w' (some B)
/-- what a round of the making holds of the world -/
def FieldS (B : Nat) (a : Option Addr) (len cap : Nat) (g : Nat → Nat) (w0 : World) (u : Value) (j : Nat) (xs : List Value) (w : World) : Prop :=
  Cur B a len cap g w ∧ w.ownsRow w0.heap.size 100 3 u j xs ∧ w0.grownBy w (some B) ∧ B < w0.heap.size
section
variable {B : Nat} {a : Option Addr} {len cap : Nat} {g : Nat → Nat} {w0 : World} {u : Value} {j : Nat} {xs : List Value} {w w' : World}
theorem FieldS.owns (h : FieldS B a len cap g w0 u j xs w) : w.ownsRow w0.heap.size 100 3 u j xs := h.2.1
theorem FieldS.size (h : FieldS B a len cap g w0 u j xs w) : w0.heap.size ≤ w.heap.size := h.2.2.1.size
theorem FieldS.cur (h : FieldS B a len cap g w0 u j xs w) : Cur B a len cap g w := h.1
theorem FieldS.drew (h : FieldS B a len cap g w0 u j xs w) : FieldS B a len cap g w0 u j xs w.drew :=
  ⟨⟨h.1.blk, h.1.row, h.1.low, h.1.small, h.1.fits⟩, h.2.1, ⟨h.2.2.1.os, h.2.2.1.tape, h.2.2.1.output, h.2.2.1.size, h.2.2.1.block⟩, h.2.2.2⟩
theorem FieldS.below (hb : Below w.heap.size w w') (h : FieldS B a len cap g w0 u j xs w) : FieldS B a len cap g w0 u j xs w' :=
  ⟨h.1.below hb, owns_below h.2.1 hb (Nat.le_refl _), grown_trans h.2.2.1 (tgrown_any (below_grown hb (Nat.le_refl _)) (some B)), h.2.2.2⟩
theorem FieldS.alloc (o : Obj) (h : FieldS B a len cap g w0 u j xs w) : FieldS B a len cap g w0 u j xs (w.alloc o) := FieldS.below ((Below.refl _ _).alloc (Nat.le_refl _) _) h
theorem FieldS.drawn (hc : Cur B a len cap g w') (hg : w.grownBy w' (some B)) (h : FieldS B a len cap g w0 u j xs w) : FieldS B a len cap g w0 u j xs w' := by
  refine ⟨hc, h.2.1.kept hg ?_, grown_trans h.2.2.1 hg, h.2.2.2⟩
  cases h5 : u.ownBlock with
  | none => exact .inl rfl
  | some k5 => exact .inr (fun e => by
      have h1 := (h.2.1.lt k5 h5).1
      have h2 := h.2.2.2
      have : k5 = B := by simpa using e
      omega)
theorem FieldS.push {o : Obj} {v : Value} {ys : List Value} (hg : (w.alloc o).grownBy w' u.ownBlock) (ho : w'.ownsRow w0.heap.size 100 3 v (j + 1) ys) (h : FieldS B a len cap g w0 u j xs w) : FieldS B a len cap g w0 v (j + 1) ys w' := by
  have hrow : ∀ k, u.ownBlock = some k → w0.heap.size ≤ k := fun k hk => (h.2.1.lt k hk).1
  have hsz := h.2.2.1.size
  have hb : Below w0.heap.size w w' := (((Below.refl _ w).alloc hsz o)).grown hg (by simp; omega) hrow
  refine ⟨h.1.belowB hb h.2.2.2, ho, ⟨hb.os.trans h.2.2.1.os, hb.tape.trans h.2.2.1.tape, hb.output.trans h.2.2.1.output, Nat.le_trans hsz hb.size, fun k hk hne => ?_⟩, h.2.2.2⟩
  rw [hb.block k hk, h.2.2.1.block k hk hne]
end
set_option maxRecDepth 100000 in
set_option maxHeartbeats 3000000 in
theorem l02Field_any (B : Nat) (a : Option Addr) (len cap : Nat) (g : Nat → Nat) (n : Nat) (w : World) (hc : Cur B a len cap g w) (h0 : 0 < n) (hn : n ≤ 6) :
    Calls Try.prog 41 #[.pointer (some ⟨B, 0, none⟩), .int .i64 (n : Int)] w (FieldMade B a len cap g n w) := by
  obtain ⟨i0, hi, hz0, hz1, hz2⟩ := info_parts Try.infoTeam
  have hlB := hc.lt
  have HC := Lib.hid hc
  clear hc
  have L1 := Lib.hid (fun w1 hc (m : Nat) (h1 : 0 < m) (h2 : m ≤ 256) => l01Below_small B a len cap g m w1 hc h1 h2)
  go_enter Try.func41, Try.ntmps41
  go_wp2_with fail
  have o0 : (w.alloc (.cells #[] 100)).ownsRow w.heap.size 100 3 (.slice (some ⟨w.heap.size, 0, none⟩) 0 0) 0 [] := World.ownsRow_lit w #[] 0 (Nat.le_refl _) (by decide) rfl
  have c0 := HC.out.below ((Below.refl _ _).alloc (Nat.le_refl _) (.cells #[] 100))
  refine (L1.out _ c0 n h0 (by omega)).mono ?_
  rintro e w1 ⟨turn, hturn, rfl, c1, g1⟩
  have o1 := o0.kept g1 (.inr fun e => by have : w.heap.size = B := by simpa [Value.ownBlock] using e
                                          omega)
  have gw1 : w.grownBy w1 (some B) := grown_trans (World.grownBy_alloc w _ _) g1
  have FI := Lib.hid (fun (j : Nat) w (hj : j < 100) => formatInt_spec (j : Int) w (by unfold isInt; omega))
  clear o0 c0 g1
  go_wp2
  go_loopw [5, 7] (fun out i wr => ∃ (j : Nat) (xs : List Value) (G : Nat → TeamD), j ≤ n ∧ i = .int .i64 j ∧ Hid (MadeF n turn G j) ∧
      Hid (∀ t, t < j → xs[t * 3]? = some (.string (G t).nm) ∧ xs[t * 3 + 1]? = some (.int .i64 (G t).club) ∧ xs[t * 3 + 2]? = some (.int .i64 (G t).seed)) ∧ FieldS B a len cap g w out j xs wr)
    (fun _ i _ => n - (intOf i).toNat)
  case atStart => exact ⟨0, [], fun _ => ⟨ByteArray.empty, 0, 0⟩, Nat.zero_le _, rfl, fun i hi => absurd hi (by omega), fun t ht => absurd ht (by omega), c1, o1, gw1, hlB⟩
  case round =>
    clear o1 c1 gw1
    obtain ⟨j, xs, G, hj, rfl, hG, hxs, hS⟩ := hrel
    by_cases hlt : j < n
    · have hmod : Int.tmod ((j : Int) + turn) n = (((j + turn) % n : Nat) : Int) := by
        rw [show ((j : Int) + turn) = ((j + turn : Nat) : Int) by omega]
        rfl
      have hml : (j + turn) % n < n := Nat.mod_lt _ h0
      have hnz : ((n : Int) == 0) = false := by simp; omega
      have hnz2 : (n == 0) = false := by simp; omega
      have hnz3 : ¬ n = 0 := by omega
      have hnz4 : ¬ (n : Int) = 0 := by omega
      have w1' : IntKind.i64.wrap ((j : Int) + turn) = (j : Int) + turn := by rw [IntKind.wrap_i64]; omega
      have w2' : IntKind.i64.wrap ((((j + turn) % n : Nat) : Int) + 1) = (((j + turn) % n : Nat) : Int) + 1 := by rw [IntKind.wrap_i64]; omega
      obtain ⟨Z, HZ, hZl, FZ⟩ : ∃ Z : List UInt8, Hid (Z = Lib.itoa (j : Int)) ∧ Z.length ≤ 19 ∧ Hid (∀ w, Calls Try.prog 53 #[.int .i64 (j : Int)] w fun e w' => e = .returned (.string ⟨Z.toArray⟩) ∧ Below w.heap.size w w') :=
        ⟨_, rfl, by rw [itoa_pos _ (by omega), Lib.decDigits_length]; exact nDigits_le _ (by omega), fun w => FI.out j w (by omega)⟩
      have hzz : Z.toArray.size ≤ 4611686018427387904 := by simp; omega
      have hzl2 : ¬ 9223372036854775807 < 1 + Z.length := by omega
      clear FI
      generalize hsd : (((j + turn) % n : Nat) : Int) = sd at *
      have HSD := Lib.hid hsd
      clear hsd
      have s0 := hS.drew
      clear hS
      go_wp2_with fail
      go_region_held3 (fun w' => True) (trivial)
        (first
          | (go_at_call 53; refine (FZ.out _).mono ?_; rintro e wa ⟨rfl, ba⟩; have sa := FieldS.below ba (by assumption))
          | (go_at_call 30; refine (L1.out _ (FieldS.cur (by assumption)) 4 (by omega) (by omega)).mono ?_; rintro e wb ⟨cl, hcl, rfl, cb, gb⟩; have sb := FieldS.drawn cb gb (by assumption))
          | (refine step_append_lies _ (by rfl) (.tmp 17) (.tmp 30) 23 (by rfl) w.heap.size 100 i0 (.agg #[.string ByteArray.empty, .int .i64 0, .int .i64 0]) 3 32 Try.underlying23 hi hz0 hz1 hz2 rfl (by decide) u5 j xs (by rfl) (FieldS.owns (FieldS.alloc _ (by assumption))) ⟨_, 0, none⟩ 1 1 [.string (⟨#[116]⟩ ++ ⟨Z.toArray⟩), .int .i64 cl, .int .i64 (sd + 1)] (by rfl) (by rfl) (World.news_of_block (cs := #[.string (⟨#[116]⟩ ++ ⟨Z.toArray⟩), .int .i64 cl, .int .i64 (sd + 1)]) (t := 100) (fr := (0, 0)) (heap_alloc_new _ _)) (by intro u hu; simp at hu; rcases hu with rfl | rfl | rfl <;> rfl) (by omega) (by unfold maxLen; omega) (by omega) (FieldS.size (FieldS.alloc _ (by assumption))) _ rfl ?_; intro gg cc wc oc gc hat hlt2))
      have HS := Lib.hid (FieldS.push gc oc sb)
      clear s0 sa sb cb gb gc oc hat hlt2 ba
      generalize hv : Value.slice (some ⟨gg, 0, none⟩) (j + 1) cc = vv at *
      clear hv
      go_wp2
      go_roundw
      case rel =>
        have hl := HS.out.2.1.1
        simp only [List.length_append, List.length_cons, List.length_nil] at hl
        refine ⟨j + 1, _, fun t => if t = j then ⟨⟨#[116]⟩ ++ ⟨Z.toArray⟩, cl, sd + 1⟩ else G t, by omega, by go_num, fun i hi => ?_, fun t ht => ?_, HS.out⟩
        · by_cases hij : i = j
          · subst hij
            simp only [if_true]
            exact ⟨by unfold madeNm; rw [← HZ.out], ⟨by omega, by omega⟩, by rw [HSD.out]⟩
          · simp only [hij, if_false]
            exact hG.out i (by omega)
        · by_cases hij : t = j
          · subst hij
            simp only [if_true]
            have e : xs.length = t * 3 := by omega
            refine ⟨?_, ?_, ?_⟩
            · rw [List.getElem?_append_right (by omega), show t * 3 - xs.length = 0 by omega]; rfl
            · rw [List.getElem?_append_right (by omega), show t * 3 + 1 - xs.length = 1 by omega]; rfl
            · rw [List.getElem?_append_right (by omega), show t * 3 + 2 - xs.length = 2 by omega]; rfl
          · simp only [hij, if_false]
            obtain ⟨h1, h2, h3⟩ := hxs.out t (by omega)
            exact ⟨by rw [List.getElem?_append_left (by omega)]; exact h1, by rw [List.getElem?_append_left (by omega)]; exact h2, by rw [List.getElem?_append_left (by omega)]; exact h3⟩
      case measure => simp [intOf]; omega
    · obtain rfl : j = n := by omega
      clear FI L1
      go_wp2
      go_ret
      exact ⟨_, G, turn, xs, rfl, hturn, hG.out, hS.2.1, hxs.out, hS.1, hS.2.2.1⟩

/-- a field has been made: n teams that read G -/
def FieldIs (w : World) (n : Nat) (G : Nat → TeamD) (e : Ending) (w' : World) : Prop :=
  ∃ v, e = .returned v ∧ TeamRow w' v n G ∧ Below w.heap.size w w'
def FieldGood (n : Nat) (G : Nat → TeamD) : Prop := (2 ≤ n ∧ n ≤ 6) ∧ (∃ turn, turn < n ∧ MadeF n turn G n) ∧ ∀ i, n ≤ i → G i = ⟨ByteArray.empty, 0, 0⟩
end Go.Proofs.Ytojkonhhaamodaa
set_option linter.unusedVariables false
namespace Go.Proofs.Ytojkonhhaamodaa
section
variable {P : Program} {ops : Array Oper} {Q : Exit → Act → World → Prop} {md : Region.Mode} {S : Array Bool → World → Prop}

/-- Whatever order is picked from here on, S holds of what has come up and of the world. -/
def Await (P : Program) (md : Region.Mode) (ops : Array Oper) (Q : Exit → Act → World → Prop) (S : Array Bool → World → Prop) : Nat → Array Bool → Act → World → Prop
  | 0, l, a, w => Region.ready md ops l = [] ∧ Q .normal a w
  | n + 1, l, a, w => (Region.ready md ops l = [] → Q .normal a w) ∧
      ∀ i ∈ Region.ready md ops l, wpOp P ops Q i (fun a' w' => S (l.setIfInBounds i true) w' ∧ Await P md ops Q S n (l.setIfInBounds i true) a' w') a w
theorem Await.any : ∀ (n : Nat) (l : Array Bool) (a : Act) (w : World), Await P md ops Q S n l a w → wpAny P md ops Q n l a w
  | 0, _, _, _, h => h
  | n + 1, _, _, _, h => ⟨h.1, fun i hi => wpOp_mono (fun a' w' h' => Await.any n _ a' w' h'.2) (h.2 i hi)⟩
/-- F is asked as long as operation number st has not come up -/
def Until (st : Nat) (F : World → Prop) (l : Array Bool) (w : World) : Prop := l.getD st true = false → F w
theorem getD_set {l : Array Bool} {j k : Nat} (h : (l.setIfInBounds j true).getD k true = false) : l.getD k true = false := by
  by_cases e : j = k
  · subst e
    by_cases hj : j < l.size
    · rw [Array.getD_eq_getD_getElem?, Array.getElem?_setIfInBounds_self_of_lt hj] at h; cases h
    · rw [Array.setIfInBounds_eq_of_size_le (by omega)] at h; exact h
  · rw [getD_set_ne true e] at h; exact h
/-- number j waits for number i -/
def waitsFor (md : Region.Mode) (ops : Array Oper) (j i : Nat) : Bool := match ops[j]? with
  | some o => o.after.any fun e => Region.binds md e && e.on == i
  | none => false
theorem waits_not_ready {j i : Nat} {l : Array Bool} (h : waitsFor md ops j i = true) (hi : l.getD i false = false) : j ∉ Region.ready md ops l := fun hj => by
  obtain ⟨_, oj, hoj, hall⟩ := mem_ready.1 hj
  unfold waitsFor at h
  rw [hoj] at h
  simp only [Array.any_eq_true', Bool.and_eq_true, beq_iff_eq] at h
  obtain ⟨e, he, hb, heq⟩ := h
  have := hall e he hb
  rw [heq] at this
  rw [hi] at this
  cases this
theorem Await.first {st p : Nat} {F : World → Prop} {G : World → Prop} {i : Nat} {oi : Oper} {v : Value} (hist : i ≠ st) (hi : ops[i]? = some oi) (hsel : Region.noSelect ops = true)
    (hQ : ∀ c a w, Q (.panic c) (a.put oi.dst v) w → Q (.panic c) a w) (hFG : (∀ w, F w → G w) ∧ waitsFor md ops p i = true ∧ waitsFor md ops st p = true ∧ p < ops.size ∧ i < ops.size ∨ ∀ w, G w) :
    ∀ (n : Nat) (l : Array Bool) (a : Act) (w : World), l.size = ops.size →
      (∀ j oj, ops[j]? = some oj → j ≠ i → l.getD j true = false → (∀ e ∈ oj.after, Region.binds md e = true → e.on ≠ i) → oi.apart ops oj = true) →
      i ∈ Region.ready md ops l → YieldsIf P ops G oi v a → Until st F l w → ((∀ w, G w) ∨ (l.getD p true = false ∧ l.getD st true = false)) →
      Await P md ops Q (Until st F) n (l.setIfInBounds i true) (a.put oi.dst v) w → Await P md ops Q (Until st F) (n + 1) l a w := by
  have hsel' := Region.noSelect_spec hsel
  have hG : ∀ (l : Array Bool) (w : World), Until st F l w → ((∀ w, G w) ∨ (l.getD p true = false ∧ l.getD st true = false)) → G w := fun l w hU hp => by
    rcases hFG with ⟨hh, _⟩ | hh
    · rcases hp with hp | hp
      · exact hp w
      · exact hh w (hU hp.2)
    · exact hh w
  intro n
  induction n with
  | zero =>
    intro l a w _ _ hr hy hS hp H
    refine ⟨fun h => (by rw [h] at hr; cases hr), fun j hj => ?_⟩
    by_cases hji : j = i
    · subst hji; exact hy.wpOp hi (hG l w hS hp) ⟨fun h => hS (getD_set h), H⟩
    · have := ready_mono hj hji
      rw [H.1] at this
      cases this
  | succ n ih =>
    intro l a w hsz hfree hr hy hS hp H
    refine ⟨fun h => (by rw [h] at hr; cases hr), fun j hj => ?_⟩
    by_cases hji : j = i
    · subst hji; exact hy.wpOp hi (hG l w hS hp) ⟨fun h => hS (getD_set h), H⟩
    · have h1 := H.2 j (ready_mono hj hji)
      obtain ⟨hjun, oj, hoj, hall⟩ := mem_ready.1 hj
      have hil := (mem_ready.1 hr).1
      have hnot : ∀ e ∈ oj.after, Region.binds md e = true → e.on ≠ i := fun e he hb heq => by
        have h1 := hall e he hb
        have h0 := hil
        rw [heq] at h1
        rcases Nat.lt_or_ge i l.size with h' | h'
        · simp [h'] at h0 h1; rw [h0] at h1; cases h1
        · simp [Array.getElem?_eq_none h'] at h1
      have h2 := wpOp_putIf hoj (hfree j oj hoj hji hjun hnot) (fun cs b => hsel' i oi cs b hi) (fun cs b => hsel' j oj cs b hoj) hQ hy h1
      have hfree' : ∀ k ok, ops[k]? = some ok → k ≠ i → (l.setIfInBounds j true).getD k true = false → (∀ e ∈ ok.after, Region.binds md e = true → e.on ≠ i) → oi.apart ops ok = true := fun k ok hk hki hun hno => by
        refine hfree k ok hk hki ?_ hno
        by_cases hjk : j = k
        · subst hjk; exact hjun
        · rw [getD_set_ne true hjk] at hun; exact hun
      have hp' : (∀ w, G w) ∨ ((l.setIfInBounds j true).getD p true = false ∧ (l.setIfInBounds j true).getD st true = false) := by
        rcases hp with hp | ⟨hp1, hp2⟩
        · exact .inl hp
        · rcases hFG with ⟨_, hpi, hsp, hpl, hil2⟩ | hh
          · have toF : ∀ k, k < ops.size → l.getD k true = false → l.getD k false = false := fun k hk h => by
              rw [← h]; simp [Array.getD, hsz, hk]
            have n1 : j ≠ p := fun e => waits_not_ready hpi (toF i hil2 hil) (e ▸ hj)
            have n2 : j ≠ st := fun e => waits_not_ready hsp (toF p hpl hp1) (e ▸ hj)
            exact .inr ⟨by rw [getD_set_ne true n1]; exact hp1, by rw [getD_set_ne true n2]; exact hp2⟩
          · exact .inl hh
      refine wpOp_mono (fun a' w' h3 => ?_) h2
      obtain ⟨hy', hU, hA⟩ := h3
      have hr' := ready_mono hr (Ne.symm hji)
      have hU' : Until st F (l.setIfInBounds j true) w' := fun hl => hU (by
        rw [Array.setIfInBounds_comm _ _ (Ne.symm hji), getD_set_ne true hist]; exact hl)
      refine ⟨hU', ih (l.setIfInBounds j true) a' w' (by simpa using hsz) hfree' hr' hy' hU' hp' ?_⟩
      rw [Array.setIfInBounds_comm _ _ hji]
      exact hA
/-- a load is taken first: the store number st waits for number p, which waits for it -/
theorem Await.take {st p i n : Nat} {F : World → Prop} {oi : Oper} {v : Value} {l : Array Bool} {a : Act} {w : World} (hi : ops[i]? = some oi) (hs : Region.noSelect ops = true) (hf : Region.free md ops l i = true) (hr : (Region.ready md ops l).contains i = true)
    (hw : (waitsFor md ops p i && waitsFor md ops st p && decide (p < ops.size) && decide (i < ops.size) && decide (i ≠ st) && decide (l.size = ops.size) && !l.getD p true && !l.getD st true) = true)
    (hQ : ∀ c a w, Q (.panic c) (a.put oi.dst v) w → Q (.panic c) a w) (hy : YieldsIf P ops F oi v a) (hS : Until st F l w)
    (h : Await P md ops Q (Until st F) n (l.setIfInBounds i true) (a.put oi.dst v) w) : Await P md ops Q (Until st F) (n + 1) l a w := by
  simp only [Bool.and_eq_true, decide_eq_true_eq, Bool.not_eq_true'] at hw
  obtain ⟨⟨⟨⟨⟨⟨⟨h1, h2⟩, h3⟩, h4⟩, h5⟩, h6⟩, h7⟩, h8⟩ := hw
  exact Await.first (p := p) (G := F) h5 hi hs hQ (.inl ⟨fun _ h => h, h1, h2, h3, h4⟩) n l a w h6 (Region.free_spec hi hf) (by simpa using hr) hy hS (.inr ⟨h7, h8⟩) h
/-- what yields in whatever world is taken first -/
theorem Await.pure {st i n : Nat} {F : World → Prop} {oi : Oper} {v : Value} {l : Array Bool} {a : Act} {w : World} (hi : ops[i]? = some oi) (hs : Region.noSelect ops = true) (hf : Region.free md ops l i = true) (hr : (Region.ready md ops l).contains i = true)
    (hw : (decide (i ≠ st) && decide (l.size = ops.size)) = true)
    (hQ : ∀ c a w, Q (.panic c) (a.put oi.dst v) w → Q (.panic c) a w) (hy : YieldsIf P ops (fun _ => True) oi v a) (hS : Until st F l w)
    (h : Await P md ops Q (Until st F) n (l.setIfInBounds i true) (a.put oi.dst v) w) : Await P md ops Q (Until st F) (n + 1) l a w := by
  simp only [Bool.and_eq_true, decide_eq_true_eq] at hw
  exact Await.first (p := 0) (G := fun _ => True) hw.1 hi hs hQ (.inr fun _ => trivial) n l a w hw.2 (Region.free_spec hi hf) (by simpa using hr) hy hS (.inl fun _ => trivial) h
/-- p1 waits for i, p2 for p1, .., the store st for the last of them -/
def chainW (md : Region.Mode) (ops : Array Oper) (st : Nat) : Nat → List Nat → Bool
  | i, [] => waitsFor md ops st i
  | i, p :: ps => waitsFor md ops p i && chainW md ops st p ps
theorem chain_not_ready {st j : Nat} {l : Array Bool} (hj : j ∈ Region.ready md ops l) : ∀ (ps : List Nat) (i : Nat), chainW md ops st i ps = true → l.getD i false = false → (∀ k ∈ ps, l.getD k false = false) → j ≠ st ∧ ∀ k ∈ ps, j ≠ k
  | [], i, h, hi, _ => ⟨fun e => waits_not_ready h hi (e ▸ hj), fun k hk => by cases hk⟩
  | p :: ps, i, h, hi, hp => by
    unfold chainW at h
    simp only [Bool.and_eq_true] at h
    have hpu := hp p (by simp)
    have h2 := chain_not_ready hj ps p h.2 hpu fun k hk => hp k (by simp [hk])
    refine ⟨h2.1, fun k hk => ?_⟩
    rcases List.mem_cons.1 hk with rfl | hk
    · exact fun e => waits_not_ready h.1 hi (e ▸ hj)
    · exact h2.2 k hk
theorem Await.firsts {st : Nat} {ps : List Nat} {F : World → Prop} {i : Nat} {oi : Oper} {v : Value} (hist : i ≠ st) (hi : ops[i]? = some oi) (hsel : Region.noSelect ops = true)
    (hQ : ∀ c a w, Q (.panic c) (a.put oi.dst v) w → Q (.panic c) a w) (hch : chainW md ops st i ps = true) (hpl : ∀ k ∈ ps, k < ops.size) (hil2 : i < ops.size) :
    ∀ (n : Nat) (l : Array Bool) (a : Act) (w : World), l.size = ops.size →
      (∀ j oj, ops[j]? = some oj → j ≠ i → l.getD j true = false → (∀ e ∈ oj.after, Region.binds md e = true → e.on ≠ i) → oi.apart ops oj = true) →
      i ∈ Region.ready md ops l → YieldsIf P ops F oi v a → Until st F l w → ((∀ k ∈ ps, l.getD k true = false) ∧ l.getD st true = false) →
      Await P md ops Q (Until st F) n (l.setIfInBounds i true) (a.put oi.dst v) w → Await P md ops Q (Until st F) (n + 1) l a w := by
  have hsel' := Region.noSelect_spec hsel
  intro n
  induction n with
  | zero =>
    intro l a w _ _ hr hy hS hp H
    refine ⟨fun h => (by rw [h] at hr; cases hr), fun j hj => ?_⟩
    by_cases hji : j = i
    · subst hji; exact hy.wpOp hi (hS hp.2) ⟨fun h => hS (getD_set h), H⟩
    · have := ready_mono hj hji
      rw [H.1] at this
      cases this
  | succ n ih =>
    intro l a w hsz hfree hr hy hS hp H
    refine ⟨fun h => (by rw [h] at hr; cases hr), fun j hj => ?_⟩
    by_cases hji : j = i
    · subst hji; exact hy.wpOp hi (hS hp.2) ⟨fun h => hS (getD_set h), H⟩
    · have h1 := H.2 j (ready_mono hj hji)
      obtain ⟨hjun, oj, hoj, hall⟩ := mem_ready.1 hj
      have hil := (mem_ready.1 hr).1
      have hnot : ∀ e ∈ oj.after, Region.binds md e = true → e.on ≠ i := fun e he hb heq => by
        have h1 := hall e he hb
        have h0 := hil
        rw [heq] at h1
        rcases Nat.lt_or_ge i l.size with h' | h'
        · simp [h'] at h0 h1; rw [h0] at h1; cases h1
        · simp [Array.getElem?_eq_none h'] at h1
      have h2 := wpOp_putIf hoj (hfree j oj hoj hji hjun hnot) (fun cs b => hsel' i oi cs b hi) (fun cs b => hsel' j oj cs b hoj) hQ hy h1
      have hfree' : ∀ k ok, ops[k]? = some ok → k ≠ i → (l.setIfInBounds j true).getD k true = false → (∀ e ∈ ok.after, Region.binds md e = true → e.on ≠ i) → oi.apart ops ok = true := fun k ok hk hki hun hno => by
        refine hfree k ok hk hki ?_ hno
        by_cases hjk : j = k
        · subst hjk; exact hjun
        · rw [getD_set_ne true hjk] at hun; exact hun
      have toF : ∀ k, k < ops.size → l.getD k true = false → l.getD k false = false := fun k hk h => by
        rw [← h]; simp [Array.getD, hsz, hk]
      have hnr := chain_not_ready hj ps i hch (toF i hil2 hil) fun k hk => toF k (hpl k hk) (hp.1 k hk)
      have hp' : (∀ k ∈ ps, (l.setIfInBounds j true).getD k true = false) ∧ (l.setIfInBounds j true).getD st true = false :=
        ⟨fun k hk => by rw [getD_set_ne true (hnr.2 k hk)]; exact hp.1 k hk, by rw [getD_set_ne true hnr.1]; exact hp.2⟩
      refine wpOp_mono (fun a' w' h3 => ?_) h2
      obtain ⟨hy', hU, hA⟩ := h3
      have hr' := ready_mono hr (Ne.symm hji)
      have hU' : Until st F (l.setIfInBounds j true) w' := fun hl => hU (by
        rw [Array.setIfInBounds_comm _ _ (Ne.symm hji), getD_set_ne true hist]; exact hl)
      refine ⟨hU', ih (l.setIfInBounds j true) a' w' (by simpa using hsz) hfree' hr' hy' hU' hp' ?_⟩
      rw [Array.setIfInBounds_comm _ _ hji]
      exact hA
/-- a load is taken first: the store number st waits for it by the numbers ps, one after the other -/
theorem Await.takes {st i n : Nat} (ps : List Nat) {F : World → Prop} {oi : Oper} {v : Value} {l : Array Bool} {a : Act} {w : World} (hi : ops[i]? = some oi) (hs : Region.noSelect ops = true) (hf : Region.free md ops l i = true) (hr : (Region.ready md ops l).contains i = true)
    (hw : (chainW md ops st i ps && ps.all (fun k => decide (k < ops.size) && !l.getD k true) && decide (i < ops.size) && decide (i ≠ st) && decide (l.size = ops.size) && !l.getD st true) = true)
    (hQ : ∀ c a w, Q (.panic c) (a.put oi.dst v) w → Q (.panic c) a w) (hy : YieldsIf P ops F oi v a) (hS : Until st F l w)
    (h : Await P md ops Q (Until st F) n (l.setIfInBounds i true) (a.put oi.dst v) w) : Await P md ops Q (Until st F) (n + 1) l a w := by
  simp only [Bool.and_eq_true, decide_eq_true_eq, Bool.not_eq_true', List.all_eq_true] at hw
  obtain ⟨⟨⟨⟨⟨h1, h2⟩, h4⟩, h5⟩, h6⟩, h8⟩ := hw
  exact Await.firsts (ps := ps) h5 hi hs hQ h1 (fun k hk => (h2 k hk).1) h4 n l a w h6 (Region.free_spec hi hf) (by simpa using hr) hy hS ⟨fun k hk => (h2 k hk).2, h8⟩ h
/-- operation number i comes up, alone -/
theorem Await.step {i n : Nat} {o : Oper} {l : Array Bool} {a : Act} {w : World} (hr : Region.ready md ops l = [i]) (ho : ops[i]? = some o)
    (h : ∀ K' : Act → World → Prop, Shut (∀ a w, S (l.setIfInBounds i true) w → (S (l.setIfInBounds i true) w → Await P md ops Q S n (l.setIfInBounds i true) a w) → K' a w) →
      if Region.wanted o (yielded ops a.tmps) = true then Oper.wp P o a w K' Q else K' (a.put o.dst undef) w) : Await P md ops Q S (n + 1) l a w := by
  refine ⟨fun h0 => (by rw [hr] at h0; cases h0), fun j hj => ?_⟩
  rw [hr] at hj
  obtain rfl := List.mem_singleton.1 hj
  exact wpOp_step ho (fun K' hK => h K' (fun a w hS hW => hK a w ⟨hS, hW hS⟩))
theorem Await.done {l : Array Bool} {a : Act} {w : World} (hr : Region.ready md ops l = []) (h : Q .normal a w) : ∀ n, Await P md ops Q S n l a w
  | 0 => ⟨hr, h⟩
  | _ + 1 => ⟨fun _ => h, by rw [hr]; simp⟩
theorem Await.begin {id : Nat} {a : Act} {w : World} (hm : P.follows .mixedOrders = true) (hS : S (Array.replicate ops.size false) w.drew)
    (h : S (Array.replicate ops.size false) w.drew → Await P .any ops Q S ops.size (Array.replicate ops.size false) a w.drew) : (Code.region id ops true).wp P Q a w :=
  wp_region_any hm (Await.any _ _ _ _ (h hS))
/-- nothing is asked any more -/
theorem Until.over {st : Nat} {F : World → Prop} {l : Array Bool} {w : World} (h : l.getD st true = true) : Until st F l w := fun h' => by rw [h] at h'; cases h'
theorem Until.of {st : Nat} {F : World → Prop} {l : Array Bool} {w : World} (h : F w) : Until st F l w := fun _ => h
end
end Go.Proofs.Ytojkonhhaamodaa
set_option linter.unusedVariables false
namespace Go.Proofs.Ytojkonhhaamodaa
open Go.RowKit

/-- what the making of a book leaves alone behind block D -/
def BkFix (B : Nat) (a : Option Addr) (len cap : Nat) (g : Nat → Nat) (w0 : World) (D n : Nat) (vf : Value) (xf : List Value) (vl : Value) (LL : List Int) (vg : Value) (LG : List GameD) (w : World) : Prop :=
  Cur B a len cap g w ∧ w.ownsRow (w0.heap.size + 1) 100 3 vf n xf ∧ w.ownsRow (w0.heap.size + 1) 3 1 vl LL.length (LL.map (Value.int .i64)) ∧ w.ownsRow (w0.heap.size + 1) 37 5 vg LG.length (gcells LG) ∧
    w.heap[w0.heap.size]? = some (.cells #[.slice none 0 0, .int .i64 0, .int .i64 0, .int .i64 0, .slice none 0 0, .bool false, .slice none 0 0, .slice none 0 0, .slice none 0 0] 29 (0, 0)) ∧ w0.grownBy w (some B) ∧
    (B < w0.heap.size ∧ w0.heap.size < D ∧ D < w.heap.size ∧ (∀ k, vf.ownBlock = some k → k < D) ∧ (∀ k, vl.ownBlock = some k → k < D) ∧ (∀ k, vg.ownBlock = some k → k < D))
section
variable {B : Nat} {a : Option Addr} {len cap : Nat} {g : Nat → Nat} {w0 : World} {D n : Nat} {vf : Value} {xf : List Value} {vl : Value} {LL : List Int} {vg : Value} {LG : List GameD} {w w' : World}
theorem BkFix.below (h : BkFix B a len cap g w0 D n vf xf vl LL vg LG w) (hb : Below D w w') : BkFix B a len cap g w0 D n vf xf vl LL vg LG w' := by
  obtain ⟨h1, h2, h3, h4, h5, h6, h7, h8, h9, h10, h11, h12⟩ := h
  have hs := h6.size
  refine ⟨h1.belowW hb (by omega), owns_kept h2 hb h10, owns_kept h3 hb h11, owns_kept h4 hb h12, (hb.block _ h8).trans h5, ⟨hb.os.trans h6.os, hb.tape.trans h6.tape, hb.output.trans h6.output, Nat.le_trans hs hb.size, fun k hk hne => (hb.block k (by omega)).trans (h6.block k hk hne)⟩, h7, h8, Nat.lt_of_lt_of_le h9 hb.size, h10, h11, h12⟩
theorem BkFix.drawn (h : BkFix B a len cap g w0 D n vf xf vl LL vg LG w) (hc : Cur B a len cap g w') (hg : w.grownBy w' (some B)) : BkFix B a len cap g w0 D n vf xf vl LL vg LG w' := by
  obtain ⟨h1, h2, h3, h4, h5, h6, h7, h8, h9, h10, h11, h12⟩ := h
  have key : ∀ {e : TypeId} {size m : Nat} {v : Value} {xs : List Value}, w.ownsRow (w0.heap.size + 1) e size v m xs → v.ownBlock = none ∨ v.ownBlock ≠ some B := fun {e size m v xs} ho => by
    cases hv : v.ownBlock with
    | none => exact .inl rfl
    | some k => exact .inr fun e => by have := (ho.lt k hv).1; simp at e; omega
  exact ⟨hc, h2.kept hg (key h2), h3.kept hg (key h3), h4.kept hg (key h4), (hg.block _ (by omega) (by intro e; simp at e; omega)).trans h5, grown_trans h6 hg, h7, h8, Nat.lt_of_lt_of_le h9 hg.size, h10, h11, h12⟩
end
/-- and its box in block D, with two lists that grow -/
def BkBox (B : Nat) (a : Option Addr) (len cap : Nat) (g : Nat → Nat) (w0 : World) (D n : Nat) (vf : Value) (xf : List Value) (vl : Value) (LL : List Int) (vg : Value) (LG : List GameD) (win : Int) (ag : Bool) (vfa : Value) (F : List Int) (vta : Value) (T : List Int) (w : World) : Prop :=
  BkFix B a len cap g w0 D n vf xf vl LL vg LG w ∧ w.heap[D]? = some (.cells #[vf, .int .i64 win, .int .i64 1, .int .i64 0, vl, .bool ag, vg, vfa, vta] 29 (0, 0)) ∧
    w.ownsRow (D + 1) 3 1 vfa F.length (F.map (Value.int .i64)) ∧ w.ownsRow (D + 1) 3 1 vta T.length (T.map (Value.int .i64)) ∧ (∀ k, vfa.ownBlock = some k → vta.ownBlock ≠ some k)
section
variable {B : Nat} {a : Option Addr} {len cap : Nat} {g : Nat → Nat} {w0 : World} {D n : Nat} {vf : Value} {xf : List Value} {vl : Value} {LL : List Int} {vg : Value} {LG : List GameD} {win : Int} {ag : Bool} {vfa : Value} {F : List Int} {vta : Value} {T : List Int} {w w' : World}
theorem BkBox.below (h : BkBox B a len cap g w0 D n vf xf vl LL vg LG win ag vfa F vta T w) (hb : Below w.heap.size w w') : BkBox B a len cap g w0 D n vf xf vl LL vg LG win ag vfa F vta T w' := by
  obtain ⟨h1, h2, h3, h4, h5⟩ := h
  have hD : D < w.heap.size := (Array.getElem?_eq_some_iff.1 h2).1
  exact ⟨h1.below (hb.mono (by omega)), (hb.block D hD).trans h2, owns_below h3 hb (Nat.le_refl _), owns_below h4 hb (Nat.le_refl _), h5⟩
theorem BkBox.drawn (h : BkBox B a len cap g w0 D n vf xf vl LL vg LG win ag vfa F vta T w) (hc : Cur B a len cap g w') (hg : w.grownBy w' (some B)) : BkBox B a len cap g w0 D n vf xf vl LL vg LG win ag vfa F vta T w' := by
  obtain ⟨h1, h2, h3, h4, h5⟩ := h
  have hD : D < w.heap.size := (Array.getElem?_eq_some_iff.1 h2).1
  have h7 := h1.2.2.2.2.2.2.1
  have h8 := h1.2.2.2.2.2.2.2.1
  have key : ∀ {m : Nat} {v : Value} {xs : List Value}, w.ownsRow (D + 1) 3 1 v m xs → v.ownBlock = none ∨ v.ownBlock ≠ some B := fun {m v xs} ho => by
    cases hv : v.ownBlock with
    | none => exact .inl rfl
    | some k => exact .inr fun e => by have := (ho.lt k hv).1; simp at e; omega
  exact ⟨h1.drawn hc hg, (hg.block D hD (by intro e; simp at e; omega)).trans h2, h3.kept hg (key h3), h4.kept hg (key h4), h5⟩
theorem BkBox.cell (h : BkBox B a len cap g w0 D n vf xf vl LL vg LG win ag vfa F vta T w) (j : Nat) : w.cell? ⟨D, j, none⟩ = #[vf, .int .i64 win, .int .i64 1, .int .i64 0, vl, .bool ag, vg, vfa, vta][j]? := cell_of_row w D j _ _ (0, 0) h.2.1
theorem BkBox.free (h : BkBox B a len cap g w0 D n vf xf vl LL vg LG win ag vfa F vta T w) (j : Nat) : w.frozen? ⟨D, j, none⟩ = false := frozen_of_row w D j _ _ h.2.1
theorem BkBox.cur (h : BkBox B a len cap g w0 D n vf xf vl LL vg LG win ag vfa F vta T w) : Cur B a len cap g w := h.1.1
theorem BkBox.size (h : BkBox B a len cap g w0 D n vf xf vl LL vg LG win ag vfa F vta T w) : D + 1 ≤ w.heap.size := h.1.2.2.2.2.2.2.2.2.1
/-- behind an append to the one list: everything but that list is there -/
theorem BkBox.fair (h : BkBox B a len cap g w0 D n vf xf vl LL vg LG win ag vfa F vta T w) {x : Int} {v : Value} {gg : Nat} (ho : w'.ownsRow (D + 1) 3 1 v (F.length + 1) (F.map (Value.int .i64) ++ [.int .i64 x])) (hg : w.grownBy w' vfa.ownBlock)
    (hv : v.ownBlock = some gg) (hat : vfa.ownBlock = some gg ∨ w.heap.size ≤ gg) :
    (w'.cell? ⟨D, 7, none⟩ = some vfa ∧ w'.frozen? ⟨D, 7, none⟩ = false) ∧ BkBox B a len cap g w0 D n vf xf vl LL vg LG win ag v (F ++ [x]) vta T (w'.setCell ⟨D, 7, none⟩ v) := by
  obtain ⟨h1, h2, h3, h4, h5⟩ := h
  have hsz : D < w.heap.size := (Array.getElem?_eq_some_iff.1 h2).1
  have hb : Below (D + 1) w w' := (Below.refl _ _).grown hg (by omega) (fun k hk => (h3.lt k hk).1)
  have hD := (hb.block D (by omega)).trans h2
  have hgg : D + 1 ≤ gg := (ho.lt gg hv).1
  have h4' : w'.ownsRow (D + 1) 3 1 vta T.length (T.map (Value.int .i64)) := h4.kept hg (by
    cases hk : vta.ownBlock with
    | none => exact .inl rfl
    | some k => exact .inr fun e => h5 k e.symm hk)
  have key : ∀ {m : Nat} {u : Value} {xs : List Value}, w'.ownsRow (D + 1) 3 1 u m xs → (w'.setCell ⟨D, 7, none⟩ v).ownsRow (D + 1) 3 1 u m xs := fun {m u xs} ho => ho.kept (grown_set w' D 7 v) (by
    cases hk : u.ownBlock with
    | none => exact .inl rfl
    | some k => exact .inr fun e => by have := (ho.lt k hk).1; simp at e; omega)
  refine ⟨⟨by rw [cell_of_row w' D 7 _ _ (0, 0) hD]; rfl, frozen_of_row w' D 7 _ _ hD⟩, h1.below ((hb.mono (show D ≤ D + 1 by omega)).setCell (p := ⟨D, 7, none⟩) (Nat.le_refl D) _), by rw [heap_setCell_same w' D 7 _ _ _ hD]; rfl, by simpa using key ho, key h4', fun k hk e => ?_⟩
  rw [hv] at hk
  simp only [Option.some.injEq] at hk
  subst hk
  rcases hat with h6 | h6
  · exact h5 gg h6 e
  · have := (h4.lt gg e).2; omega
theorem BkBox.taken (h : BkBox B a len cap g w0 D n vf xf vl LL vg LG win ag vfa F vta T w) {x : Int} {v : Value} {gg : Nat} (ho : w'.ownsRow (D + 1) 3 1 v (T.length + 1) (T.map (Value.int .i64) ++ [.int .i64 x])) (hg : w.grownBy w' vta.ownBlock)
    (hv : v.ownBlock = some gg) (hat : vta.ownBlock = some gg ∨ w.heap.size ≤ gg) :
    (w'.cell? ⟨D, 8, none⟩ = some vta ∧ w'.frozen? ⟨D, 8, none⟩ = false) ∧ BkBox B a len cap g w0 D n vf xf vl LL vg LG win ag vfa F v (T ++ [x]) (w'.setCell ⟨D, 8, none⟩ v) := by
  obtain ⟨h1, h2, h3, h4, h5⟩ := h
  have hsz : D < w.heap.size := (Array.getElem?_eq_some_iff.1 h2).1
  have hb : Below (D + 1) w w' := (Below.refl _ _).grown hg (by omega) (fun k hk => (h4.lt k hk).1)
  have hD := (hb.block D (by omega)).trans h2
  have hgg : D + 1 ≤ gg := (ho.lt gg hv).1
  have h3' : w'.ownsRow (D + 1) 3 1 vfa F.length (F.map (Value.int .i64)) := h3.kept hg (by
    cases hk : vfa.ownBlock with
    | none => exact .inl rfl
    | some k => exact .inr fun e => h5 k hk e.symm)
  have key : ∀ {m : Nat} {u : Value} {xs : List Value}, w'.ownsRow (D + 1) 3 1 u m xs → (w'.setCell ⟨D, 8, none⟩ v).ownsRow (D + 1) 3 1 u m xs := fun {m u xs} ho => ho.kept (grown_set w' D 8 v) (by
    cases hk : u.ownBlock with
    | none => exact .inl rfl
    | some k => exact .inr fun e => by have := (ho.lt k hk).1; simp at e; omega)
  refine ⟨⟨by rw [cell_of_row w' D 8 _ _ (0, 0) hD]; rfl, frozen_of_row w' D 8 _ _ hD⟩, h1.below ((hb.mono (show D ≤ D + 1 by omega)).setCell (p := ⟨D, 8, none⟩) (Nat.le_refl D) _), by rw [heap_setCell_same w' D 8 _ _ _ hD]; rfl, key h3', by simpa using key ho, fun k hk e => ?_⟩
  rw [hv] at e
  simp only [Option.some.injEq] at e
  subst e
  rcases hat with h6 | h6
  · exact h5 gg hk h6
  · have := (h3.lt gg hk).2; omega
end
end Go.Proofs.Ytojkonhhaamodaa
set_option linter.unusedVariables false
namespace Go.Proofs.Ytojkonhhaamodaa
open Go.RowKit

theorem owns_drawn {B : Nat} {w w' : World} {base : Nat} {e : TypeId} {size m : Nat} {v : Value} {xs : List Value} (ho : w.ownsRow base e size v m xs) (hB : B < base) (hg : w.grownBy w' (some B)) : w'.ownsRow base e size v m xs :=
  ho.kept hg (by
    cases hv : v.ownBlock with
    | none => exact .inl rfl
    | some k => exact .inr fun e => by have := (ho.lt k hv).1; simp at e; omega)
def pick4 (i : Nat) : Int := if i = 3 then 1 else 0
theorem pick4_row (w : World) : IntRow (w.alloc (.cells #[.int .i64 0, .int .i64 0, .int .i64 0, .int .i64 1] 3)) (.slice (some ⟨w.heap.size, 0, none⟩) 4 4) 4 pick4 := by
  refine .inr ⟨w.heap.size, 0, 4, rfl, by omega, by omega, fun i hi => ?_, Nat.le_refl _⟩
  rw [Nat.zero_add, cell_of_row _ w.heap.size i _ _ (0, 0) (heap_alloc_new w _)]
  have : i = 0 ∨ i = 1 ∨ i = 2 ∨ i = 3 := by omega
  rcases this with rfl | rfl | rfl | rfl <;> rfl
/-- the data of a made book of n teams -/
structure BookI where
  turn : Nat
  field : Nat → TeamD
  win : Int
  ag : Bool
  lad : List Int
  games : List GameD
  opens : Nat
  fair : List Int
  taken : List Int
def BookI.good (n opn : Nat) (b : BookI) : Prop := (b.turn < n ∧ MadeF n b.turn b.field n) ∧ RulesGood b.win b.lad ∧ (SeaL 0 n b.games b.opens ∧ b.opens ≤ opn ∧ b.games.length ≤ 8 * n) ∧
  (b.fair.length = n ∧ ∀ x ∈ b.fair, 0 ≤ x ∧ x ≤ 3) ∧ (b.taken.length = n ∧ ∀ x ∈ b.taken, x = 0 ∨ x = 1)
/-- the slices of a book's value, and what they hold in memory of the call's own from base on -/
def BookOwn (base n : Nat) (b : BookI) (vf vl vg vfa vta : Value) (w : World) : Prop :=
  (∃ xf, w.ownsRow base 100 3 vf n xf ∧ ∀ t, t < n → xf[t * 3]? = some (.string (b.field t).nm) ∧ xf[t * 3 + 1]? = some (.int .i64 (b.field t).club) ∧ xf[t * 3 + 2]? = some (.int .i64 (b.field t).seed)) ∧
    w.ownsRow base 3 1 vl b.lad.length (b.lad.map (Value.int .i64)) ∧ w.ownsRow base 37 5 vg b.games.length (gcells b.games) ∧ w.ownsRow base 3 1 vfa b.fair.length (b.fair.map (Value.int .i64)) ∧
    w.ownsRow base 3 1 vta b.taken.length (b.taken.map (Value.int .i64))
def BookDrawn (B : Nat) (a : Option Addr) (len cap : Nat) (g : Nat → Nat) (n opn : Nat) (w : World) (e : Ending) (w' : World) : Prop :=
  ∃ b vf vl vg vfa vta, e = .returned (.agg #[vf, .int .i64 b.win, .int .i64 1, .int .i64 0, vl, .bool b.ag, vg, vfa, vta]) ∧ BookI.good n opn b ∧ BookOwn w.heap.size n b vf vl vg vfa vta w' ∧ Cur B a len cap g w' ∧ w.grownBy w' (some B)
theorem book_end {B : Nat} {a : Option Addr} {len cap : Nat} {g : Nat → Nat} {n opn D : Nat} {b : BookI} {vf vl vg vfa vta : Value} {xf : List Value} {w wr w9 : World} (h1 : b.turn < n) (h2 : MadeF n b.turn b.field n) (h3 : RulesGood b.win b.lad) (h4 : SeaL 0 n b.games b.opens ∧ b.opens ≤ opn ∧ b.games.length ≤ 8 * n)
    (h5 : b.fair.length = n ∧ ∀ x ∈ b.fair, 0 ≤ x ∧ x ≤ 3) (h6 : b.taken.length = n ∧ ∀ x ∈ b.taken, x = 0 ∨ x = 1)
    (hx : ∀ t, t < n → xf[t * 3]? = some (.string (b.field t).nm) ∧ xf[t * 3 + 1]? = some (.int .i64 (b.field t).club) ∧ xf[t * 3 + 2]? = some (.int .i64 (b.field t).seed))
    (hB : BkBox B a len cap g w D n vf xf vl b.lad vg b.games b.win b.ag vfa b.fair vta b.taken wr) (T : Touch w.heap.size (w.heap.size + 1) wr w9) :
    BookDrawn B a len cap g n opn w (.returned (.agg #[vf, .int .i64 b.win, .int .i64 1, .int .i64 0, vl, .bool b.ag, vg, vfa, vta])) w9 := by
  obtain ⟨⟨c1, c2, c3, c4, _, c6, c7, c8, _⟩, _, d3, d4, _⟩ := hB
  have key : ∀ {base : Nat} {e : TypeId} {size m : Nat} {v : Value} {xs : List Value}, wr.ownsRow base e size v m xs → w.heap.size + 1 ≤ base → w9.ownsRow w.heap.size e size v m xs := fun {base e size m v xs} ho hb =>
    owns_mono (owns_touch ho T (InW.of_owns ho) (.inr hb)) (by omega)
  have hb : Below w.heap.size wr w9 := T.below (Nat.le_refl _) c6.size
  refine ⟨b, vf, vl, vg, vfa, vta, rfl, ⟨⟨h1, h2⟩, h3, h4, h5, h6⟩, ⟨⟨xf, key c2 (Nat.le_refl _), hx⟩, key c3 (Nat.le_refl _), key c4 (Nat.le_refl _), key d3 (by omega), key d4 (by omega)⟩, c1.belowW hb c7, ?_⟩
  exact ⟨hb.os.trans c6.os, hb.tape.trans c6.tape, hb.output.trans c6.output, Nat.le_trans c6.size hb.size, fun k hk hne => (hb.block k hk).trans (c6.block k hk hne)⟩
set_option maxRecDepth 100000 in
set_option maxHeartbeats 8000000 in
theorem l07Book_any (B : Nat) (a : Option Addr) (len cap : Nat) (g : Nat → Nat) (n opn : Nat) (w : World) (hc : Cur B a len cap g w) (h1 : 1 ≤ n) (hn : n ≤ 6) (ho : opn ≤ 1000) :
    Calls Try.prog 29 #[.pointer (some ⟨B, 0, none⟩), .int .i64 (n : Int), .int .i64 (opn : Int)] w (BookDrawn B a len cap g n opn w) := by
  obtain ⟨i0, hi, hz0, hz1, hz2⟩ := info_parts Try.infoI
  have hlB := hc.ltW
  have LF := Lib.hid (fun w1 hc => l02Field_any B a len cap g n w1 hc h1 hn)
  have LR := Lib.hid (fun w1 hc => l03Draw_any B a len cap g w1 hc)
  have LS := Lib.hid (fun w1 hc => l04Season_any B a len cap g n opn w1 hc (by omega) h1 ho)
  have LB := Lib.hid (fun w1 hc => l01Below_small B a len cap g 4 w1 hc (by omega) (by omega))
  have LP := Lib.hid (fun v w1 hc hv hB => l01Pick_any B a len cap g v 4 pick4 w1 hc (by omega) (by omega) hv hB)
  have HC := Lib.hid hc
  clear hc
  go_enter Try.func29, Try.ntmps29
  go_wp2_with fail
  refine (LF.out _ (HC.out.belowW ((Below.refl _ _).alloc (Nat.le_refl _) _) hlB)).mono ?_
  rintro e w1 ⟨vf, GF, turn, xf, rfl, hturn, hmade, of1, hxf, c1, g1⟩
  have R1 : Hid (w1.heap[w.heap.size]? = some (.cells #[.slice none 0 0, .int .i64 0, .int .i64 0, .int .i64 0, .slice none 0 0, .bool false, .slice none 0 0, .slice none 0 0, .slice none 0 0] 29 (0, 0))) := by
    show _ = _
    rw [g1.block _ (by simp) (by intro e; simp at e; omega)]; exact heap_alloc_new w _
  have G1 : Hid (w.grownBy w1 (some B)) := grown_trans (World.grownBy_alloc w _ _) g1
  have z1 : w.heap.size + 1 ≤ w1.heap.size := by have := g1.size; simpa using this
  have OF := Lib.hid (owns_mono of1 (base' := w.heap.size + 1) (by simp))
  have C1 := Lib.hid c1
  have HT := Lib.hid (And.intro hturn hmade)
  have HX := Lib.hid hxf
  clear c1 g1 of1 hturn hmade hxf HC LF
  go_wp2_with fail
  refine (LR.out _ C1.out).mono ?_
  rintro e w2 ⟨vl, win, ag, LL, rfl, hgood, ol2, c2, g2⟩
  have hvf := OF.out.lt
  have R2 : Hid (w2.heap[w.heap.size]? = some (.cells #[.slice none 0 0, .int .i64 0, .int .i64 0, .int .i64 0, .slice none 0 0, .bool false, .slice none 0 0, .slice none 0 0, .slice none 0 0] 29 (0, 0))) := (g2.block _ (by omega) (by intro e; simp at e; omega)).trans R1.out
  have G2 := Lib.hid (grown_trans G1.out g2)
  have z2 := g2.size
  have OF2 := Lib.hid (owns_drawn OF.out (by omega) g2)
  have OL := Lib.hid (owns_mono ol2 (base' := w.heap.size + 1) z1)
  have C2 := Lib.hid c2
  have HGd := Lib.hid hgood
  clear c2 g2 ol2 hgood C1 G1 R1 OF LR
  go_wp2_with fail
  refine (LS.out _ C2.out).mono ?_
  rintro e w3 ⟨vg, LG, m, rfl, hLG, hm, hLGl, og3, c3, g3⟩
  have hvl := OL.out.lt
  have R3 : Hid (w3.heap[w.heap.size]? = some (.cells #[.slice none 0 0, .int .i64 0, .int .i64 0, .int .i64 0, .slice none 0 0, .bool false, .slice none 0 0, .slice none 0 0, .slice none 0 0] 29 (0, 0))) := (g3.block _ (by omega) (by intro e; simp at e; omega)).trans R2.out
  have G3 := Lib.hid (grown_trans G2.out g3)
  have z3 := g3.size
  have OF3 := Lib.hid (owns_drawn OF2.out (by omega) g3)
  have OL3 := Lib.hid (owns_drawn OL.out (by omega) g3)
  have OG3 := Lib.hid (owns_mono og3 (base' := w.heap.size + 1) (by omega))
  have hvg := OG3.out.lt
  have C3 := Lib.hid c3
  have HLG := Lib.hid hLG
  clear c3 g3 og3 hLG C2 G2 R2 OF2 OL LS
  have FX : BkFix B a len cap g w w3.heap.size n vf xf vl LL vg LG (w3.alloc (.cells #[vf, .int .i64 win, .int .i64 1, .int .i64 0, vl, .bool ag, vg, .slice none 0 0, .slice none 0 0] 29)) :=
    have hb := (Below.refl w3.heap.size w3).alloc (Nat.le_refl _) (.cells #[vf, .int .i64 win, .int .i64 1, .int .i64 0, vl, .bool ag, vg, .slice none 0 0, .slice none 0 0] 29)
    ⟨C3.out.belowW hb C3.out.ltW, owns_below OF3.out hb (Nat.le_refl _), owns_below OL3.out hb (Nat.le_refl _), owns_below OG3.out hb (Nat.le_refl _), (hb.block _ (by omega)).trans R3.out, grown_to G3.out hb, hlB, by omega, by simp, fun k hk => by have := (hvf k hk).2; omega, fun k hk => by have := (hvl k hk).2; omega, fun k hk => (hvg k hk).2⟩
  have BX : BkBox B a len cap g w w3.heap.size n vf xf vl LL vg LG win ag (.slice none 0 0) [] (.slice none 0 0) [] (w3.alloc (.cells #[vf, .int .i64 win, .int .i64 1, .int .i64 0, vl, .bool ag, vg, .slice none 0 0, .slice none 0 0] 29)) :=
    ⟨FX, heap_alloc_new w3 _, World.ownsRow_nil _ _ _ _, World.ownsRow_nil _ _ _ _, fun k hk => by simp [Value.ownBlock] at hk⟩
  obtain ⟨saf, scf, rfl⟩ := owns_form OF3.out
  obtain ⟨sal, scl, rfl⟩ := owns_form OL3.out
  obtain ⟨sag, scg, rfl⟩ := owns_form OG3.out
  have HBX := Lib.hid BX
  clear BX FX OF3 OL3 OG3 hvf hvl hvg C3 G3 R3
  go_wp2
  generalize hD : w3.heap.size = D at *
  clear hD z1 z2 z3
  go_loopw [8] (fun i wr => ∃ (k : Nat) (F T : List Int) (vfa vta : Value), k ≤ n ∧ i = .int .i64 k ∧ F.length = k ∧ T.length = k ∧ Hid ((∀ x ∈ F, 0 ≤ x ∧ x ≤ 3) ∧ ∀ x ∈ T, x = 0 ∨ x = 1) ∧ Hid (BkBox B a len cap g w D n (.slice saf n scf) xf (.slice sal LL.length scl) LL (.slice sag LG.length scg) LG win ag vfa F vta T wr)) (fun i _ => n - (intOf i).toNat)
  case atStart => exact ⟨0, [], [], _, _, Nat.zero_le _, rfl, rfl, rfl, ⟨fun x hx => by simp at hx, fun x hx => by simp at hx⟩, HBX.out⟩
  case round =>
    clear HBX
    obtain ⟨k, F, T, vfa, vta, hk, rfl, hFl, hTl, hFT, hBX⟩ := hrel
    have HFl := Lib.hid hFl
    have HTl := Lib.hid hTl
    obtain ⟨s7a, s7c, rfl⟩ := owns_form hBX.out.2.2.1
    obtain ⟨s8a, s8c, rfl⟩ := owns_form hBX.out.2.2.2.1
    by_cases hlt : k < n
    · have hF6 : F.length ≤ 6 := by omega
      have hT6 : T.length ≤ 6 := by omega
      clear hFl hTl
      have k7 := hBX.out.cell 7
      go_wp2_with fail
      refine Await.begin (S := Until 7 fun w' => w'.cell? ⟨D, 7, none⟩ = some (.slice s7a F.length s7c)) (by kernel_rfl) ?_ (fun hS => ?_)
      · exact Until.of k7
      have FE : Hid (∀ wa : World, wa.cell? ⟨D, 7, none⟩ = some (.slice s7a F.length s7c) → wa.cell? ⟨D, 7, none⟩ = some (.slice s7a F.length s7c)) := fun _ h => h
      have hBX0 := Lib.hid (hBX.out.below (Below.refl _ _).drew)
      clear k7
      generalize wr.drew = wd at *
      refine Await.pure (i := 0) (v := ?_) rfl (by kernel_rfl) (by kernel_rfl) (by kernel_rfl) (by kernel_rfl) (fun _ _ _ h => h) (Or.inl ⟨by rfl, ?_⟩) (by assumption) ?_
      rotate_left
      · (intro wa _; go_simp; try with_reducible rfl)
      simp only [Act.put, List.getElem_toArray, List.getElem_cons_zero, List.setIfInBounds_toArray, List.set_cons_zero, List.set_cons_succ]
      refine Await.take (i := 1) (p := 5) (v := ?_) rfl (by kernel_rfl) (by kernel_rfl) (by kernel_rfl) (by kernel_rfl) (fun _ _ _ h => h) (Or.inl ⟨by rfl, ?_⟩) (by assumption) ?_
      rotate_left
      · (intro wa hSw; have hSw2 := FE.out wa hSw; go_simp; try with_reducible rfl)
      simp only [Act.put, List.getElem_toArray, List.getElem_cons_zero, List.getElem_cons_succ, List.setIfInBounds_toArray, List.set_cons_zero, List.set_cons_succ]
      refine Await.pure (i := 2) (v := ?_) rfl (by kernel_rfl) (by kernel_rfl) (by kernel_rfl) (by kernel_rfl) (fun _ _ _ h => h) (Or.inl ⟨by rfl, ?_⟩) (by assumption) ?_
      rotate_left
      · (intro wa _; go_simp; try with_reducible rfl)
      simp only [Act.put, List.getElem_toArray, List.getElem_cons_zero, List.getElem_cons_succ, List.setIfInBounds_toArray, List.set_cons_zero, List.set_cons_succ]
      refine Await.step (i := 3) (o := _) (by kernel_rfl) rfl (fun K1 hK1' => ?_)
      go_simp
      refine (LB.out _ hBX0.out.cur).mono ?_
      rintro e wa ⟨y, hy, rfl, cy, gy⟩
      have hBX1 := Lib.hid (hBX0.out.drawn cy gy)
      clear cy gy hBX0
      (try go_wp2_with fail)
      refine hK1'.out _ _ ?_ (fun hS => ?_)
      · exact Until.of (hBX1.out.cell 7)
      clear hK1' K1
      refine Await.step (i := 4) (o := _) (by kernel_rfl) rfl (fun K1 hK1' => ?_)
      have hBX1b := Lib.hid (hBX1.out.below ((Below.refl _ _).alloc (Nat.le_refl _) (.cells #[.int .i64 (y : Int)] 3)))
      have hn8 := heap_alloc_new wa (.cells #[.int .i64 (y : Int)] 3)
      go_simp
      refine hK1'.out _ _ ?_ (fun hS => ?_)
      · exact Until.of (hBX1b.out.cell 7)
      clear hK1' K1
      generalize hX8 : wa.heap.size = X8 at *
      generalize wa.alloc (.cells #[.int .i64 (y : Int)] 3) = wb at *
      refine Await.step (i := 5) (o := _) (by kernel_rfl) rfl (fun K1 hK1' => ?_)
      refine step_append_lies _ (by rfl) (.tmp 25) (.tmp 28) 24 (by rfl) (D + 1) 3 i0 (.int .i64 0) 1 8 Try.underlying24 hi hz0 hz1 hz2 rfl (by decide) (.slice s7a F.length s7c) F.length (F.map (Value.int .i64)) (by rfl) hBX1b.out.2.2.1 ⟨_, 0, none⟩ 1 1 [.int .i64 (y : Int)] (by rfl) (by simp) (by simpa using World.news_of_block hn8) (by intro u hu; simp at hu; subst hu; rfl) (by omega) (by unfold maxLen; omega) (by omega) hBX1b.out.size _ rfl ?_
      intro gg cc wc5 og gg5 at5 lt5
      obtain ⟨⟨e7, f7⟩, hBX2'⟩ := hBX1b.out.fair og gg5 rfl (at5.imp id fun e => Nat.le_of_eq e.symm)
      have hBXf := Lib.hid hBX2'
      clear hBX2' og gg5 at5 hn8
      refine hK1'.out _ _ ?_ (fun hS => ?_)
      · exact Until.of e7
      clear hK1' K1
      refine Await.pure (i := 6) (v := ?_) rfl (by kernel_rfl) (by kernel_rfl) (by kernel_rfl) (by kernel_rfl) (fun _ _ _ h => h) (Or.inl ⟨by rfl, ?_⟩) (by assumption) ?_
      rotate_left
      · (intro wa _; go_simp; try with_reducible rfl)
      simp only [Act.put, List.getElem_toArray, List.getElem_cons_zero, List.getElem_cons_succ, List.setIfInBounds_toArray, List.set_cons_zero, List.set_cons_succ]
      refine Await.step (i := 7) (o := _) (by kernel_rfl) rfl (fun K1 hK1' => ?_)
      go_simp
      refine hK1'.out _ _ ?_ (fun hS => ?_)
      · exact Until.over (by kernel_rfl)
      clear hK1' K1
      refine Await.done (by kernel_rfl) ?_ _
      generalize wc5.setCell ⟨D, 7, none⟩ (.slice (some ⟨gg, 0, none⟩) (F.length + 1) cc) = we at *
      clear e7 f7 hS FE hBX1 hBX1b hBX lt5
      have k8 := hBXf.out.cell 8
      go_wp2_with fail
      refine Await.begin (S := Until 8 fun w' => w'.cell? ⟨D, 8, none⟩ = some (.slice s8a T.length s8c)) (by kernel_rfl) ?_ (fun hS => ?_)
      · exact Until.of k8
      have FE : Hid (∀ wa : World, wa.cell? ⟨D, 8, none⟩ = some (.slice s8a T.length s8c) → wa.cell? ⟨D, 8, none⟩ = some (.slice s8a T.length s8c)) := fun _ h => h
      have hBX0 := Lib.hid (hBXf.out.below (Below.refl _ _).drew)
      clear k8
      generalize we.drew = wd2 at *
      refine Await.pure (i := 0) (v := ?_) rfl (by kernel_rfl) (by kernel_rfl) (by kernel_rfl) (by kernel_rfl) (fun _ _ _ h => h) (Or.inl ⟨by rfl, ?_⟩) (by assumption) ?_
      rotate_left
      · (intro wa _; go_simp; try with_reducible rfl)
      simp only [Act.put, List.getElem_toArray, List.getElem_cons_zero, List.setIfInBounds_toArray, List.set_cons_zero, List.set_cons_succ]
      refine Await.take (i := 1) (p := 6) (v := ?_) rfl (by kernel_rfl) (by kernel_rfl) (by kernel_rfl) (by kernel_rfl) (fun _ _ _ h => h) (Or.inl ⟨by rfl, ?_⟩) (by assumption) ?_
      rotate_left
      · (intro wa hSw; have hSw2 := FE.out wa hSw; go_simp; try with_reducible rfl)
      simp only [Act.put, List.getElem_toArray, List.getElem_cons_zero, List.getElem_cons_succ, List.setIfInBounds_toArray, List.set_cons_zero, List.set_cons_succ]
      refine Await.pure (i := 2) (v := ?_) rfl (by kernel_rfl) (by kernel_rfl) (by kernel_rfl) (by kernel_rfl) (fun _ _ _ h => h) (Or.inl ⟨by rfl, ?_⟩) (by assumption) ?_
      rotate_left
      · (intro wa _; go_simp; try with_reducible rfl)
      simp only [Act.put, List.getElem_toArray, List.getElem_cons_zero, List.getElem_cons_succ, List.setIfInBounds_toArray, List.set_cons_zero, List.set_cons_succ]
      refine Await.step (i := 3) (o := _) (by kernel_rfl) rfl (fun K1 hK1' => ?_)
      have hBX0b := Lib.hid (hBX0.out.below ((Below.refl _ _).alloc (Nat.le_refl _) (.cells #[.int .i64 0, .int .i64 0, .int .i64 0, .int .i64 1] 3)))
      have hpr := pick4_row wd2
      have hnB : (Value.slice (some ⟨wd2.heap.size, 0, none⟩) 4 4).ownBlock ≠ some B := by have := hBX0.out.size; have := hBX0.out.1.2.2.2.2.2.2.1; have := hBX0.out.1.2.2.2.2.2.2.2.1; simp [Value.ownBlock]; omega
      go_simp
      refine hK1'.out _ _ ?_ (fun hS => ?_)
      · exact Until.of (hBX0b.out.cell 8)
      clear hK1' K1
      generalize wd2.heap.size = X7 at *
      generalize wd2.alloc (.cells #[.int .i64 0, .int .i64 0, .int .i64 0, .int .i64 1] 3) = wg at *
      refine Await.step (i := 4) (o := _) (by kernel_rfl) rfl (fun K1 hK1' => ?_)
      go_simp
      refine (LP.out _ _ hBX0b.out.cur hpr hnB).mono ?_
      rintro e wh ⟨⟨z, hz, rfl⟩, cy, gy⟩
      have hBX1 := Lib.hid (hBX0b.out.drawn cy gy)
      clear cy gy hBX0 hBX0b hpr hnB
      generalize hpz : pick4 z = pz at *
      have HPZ := Lib.hid hpz
      clear hpz
      (try go_wp2_with fail)
      refine hK1'.out _ _ ?_ (fun hS => ?_)
      · exact Until.of (hBX1.out.cell 8)
      clear hK1' K1
      refine Await.step (i := 5) (o := _) (by kernel_rfl) rfl (fun K1 hK1' => ?_)
      have hBX1b := Lib.hid (hBX1.out.below ((Below.refl _ _).alloc (Nat.le_refl _) (.cells #[.int .i64 pz] 3)))
      have hn8 := heap_alloc_new wh (.cells #[.int .i64 pz] 3)
      go_simp
      refine hK1'.out _ _ ?_ (fun hS => ?_)
      · exact Until.of (hBX1b.out.cell 8)
      clear hK1' K1
      generalize hX9 : wh.heap.size = X9 at *
      generalize wh.alloc (.cells #[.int .i64 pz] 3) = wi at *
      refine Await.step (i := 6) (o := _) (by kernel_rfl) rfl (fun K1 hK1' => ?_)
      refine step_append_lies _ (by rfl) (.tmp 32) (.tmp 36) 24 (by rfl) (D + 1) 3 i0 (.int .i64 0) 1 8 Try.underlying24 hi hz0 hz1 hz2 rfl (by decide) (.slice s8a T.length s8c) T.length (T.map (Value.int .i64)) (by rfl) hBX1b.out.2.2.2.1 ⟨_, 0, none⟩ 1 1 [.int .i64 pz] (by rfl) (by simp) (by simpa using World.news_of_block hn8) (by intro u hu; simp at hu; subst hu; rfl) (by omega) (by unfold maxLen; omega) (by omega) hBX1b.out.size _ rfl ?_
      intro gg2 cc2 wc6 og gg6 at6 lt6
      obtain ⟨⟨e8, f8⟩, hBX2'⟩ := hBX1b.out.taken og gg6 rfl (at6.imp id fun e => Nat.le_of_eq e.symm)
      have hBX2 := Lib.hid hBX2'
      clear hBX2' og gg6 at6 hn8
      refine hK1'.out _ _ ?_ (fun hS => ?_)
      · exact Until.of e8
      clear hK1' K1
      refine Await.pure (i := 7) (v := ?_) rfl (by kernel_rfl) (by kernel_rfl) (by kernel_rfl) (by kernel_rfl) (fun _ _ _ h => h) (Or.inl ⟨by rfl, ?_⟩) (by assumption) ?_
      rotate_left
      · (intro wa _; go_simp; try with_reducible rfl)
      simp only [Act.put, List.getElem_toArray, List.getElem_cons_zero, List.getElem_cons_succ, List.setIfInBounds_toArray, List.set_cons_zero, List.set_cons_succ]
      refine Await.step (i := 8) (o := _) (by kernel_rfl) rfl (fun K1 hK1' => ?_)
      go_simp
      refine hK1'.out _ _ ?_ (fun hS => ?_)
      · exact Until.over (by kernel_rfl)
      clear hK1' K1
      refine Await.done (by kernel_rfl) ?_ _
      generalize wc6.setCell ⟨D, 8, none⟩ (.slice (some ⟨gg2, 0, none⟩) (T.length + 1) cc2) = wj at *
      clear e8 f8 hS FE hBX1 hBX1b hBXf lt6
      rw [← HPZ.out] at hBX2
      go_wp2
      go_roundw
      case rel => exact ⟨k + 1, F ++ [(y : Int)], T ++ [pick4 z], _, _, by omega, by go_num, by simp; exact HFl.out, by simp; exact HTl.out, ⟨fun x hx => by
        rw [List.mem_append, List.mem_singleton] at hx
        rcases hx with hx | rfl
        · exact hFT.out.1 x hx
        · omega, fun x hx => by
        rw [List.mem_append, List.mem_singleton] at hx
        rcases hx with hx | rfl
        · exact hFT.out.2 x hx
        · unfold pick4; split <;> omega⟩, hBX2⟩
      case measure => simp [intOf]; omega
    · obtain rfl : k = n := by omega
      obtain ⟨hfx, hbx, hfa, hta, hdis⟩ := hBX.out
      have hRlt : w.heap.size < wr.heap.size := (Array.getElem?_eq_some_iff.1 hfx.2.2.2.2.1).1
      have hDlt : D < wr.heap.size := (Array.getElem?_eq_some_iff.1 hbx).1
      have hRD : w.heap.size < D := hfx.2.2.2.2.2.2.2.1
      have n1 : ¬ (w.heap.size = D) := by omega
      have n2 : ¬ (D = w.heap.size) := by omega
      have k0 : wr.cell? ⟨D, 0, none⟩ = some (.slice saf k scf) := cell_of_row wr D 0 _ _ (0, 0) hbx
      have k1 : wr.cell? ⟨D, 1, none⟩ = some (.int .i64 win) := cell_of_row wr D 1 _ _ (0, 0) hbx
      have k2 : wr.cell? ⟨D, 2, none⟩ = some (.int .i64 1) := cell_of_row wr D 2 _ _ (0, 0) hbx
      have k3 : wr.cell? ⟨D, 3, none⟩ = some (.int .i64 0) := cell_of_row wr D 3 _ _ (0, 0) hbx
      have k4 : wr.cell? ⟨D, 4, none⟩ = some (.slice sal LL.length scl) := cell_of_row wr D 4 _ _ (0, 0) hbx
      have k5 : wr.cell? ⟨D, 5, none⟩ = some (.bool ag) := cell_of_row wr D 5 _ _ (0, 0) hbx
      have k6 : wr.cell? ⟨D, 6, none⟩ = some (.slice sag LG.length scg) := cell_of_row wr D 6 _ _ (0, 0) hbx
      have k7 : wr.cell? ⟨D, 7, none⟩ = some (.slice s7a F.length s7c) := cell_of_row wr D 7 _ _ (0, 0) hbx
      have k8 : wr.cell? ⟨D, 8, none⟩ = some (.slice s8a T.length s8c) := cell_of_row wr D 8 _ _ (0, 0) hbx
      have q0 : wr.cell? ⟨w.heap.size, 0, none⟩ = some (.slice none 0 0) := cell_of_row wr w.heap.size 0 _ _ (0, 0) hfx.2.2.2.2.1
      have r0 := frozen_of_row wr w.heap.size 0 _ _ hfx.2.2.2.2.1
      have q1 : wr.cell? ⟨w.heap.size, 1, none⟩ = some (.int .i64 0) := cell_of_row wr w.heap.size 1 _ _ (0, 0) hfx.2.2.2.2.1
      have r1 := frozen_of_row wr w.heap.size 1 _ _ hfx.2.2.2.2.1
      have q2 : wr.cell? ⟨w.heap.size, 2, none⟩ = some (.int .i64 0) := cell_of_row wr w.heap.size 2 _ _ (0, 0) hfx.2.2.2.2.1
      have r2 := frozen_of_row wr w.heap.size 2 _ _ hfx.2.2.2.2.1
      have q3 : wr.cell? ⟨w.heap.size, 3, none⟩ = some (.int .i64 0) := cell_of_row wr w.heap.size 3 _ _ (0, 0) hfx.2.2.2.2.1
      have r3 := frozen_of_row wr w.heap.size 3 _ _ hfx.2.2.2.2.1
      have q4 : wr.cell? ⟨w.heap.size, 4, none⟩ = some (.slice none 0 0) := cell_of_row wr w.heap.size 4 _ _ (0, 0) hfx.2.2.2.2.1
      have r4 := frozen_of_row wr w.heap.size 4 _ _ hfx.2.2.2.2.1
      have q5 : wr.cell? ⟨w.heap.size, 5, none⟩ = some (.bool false) := cell_of_row wr w.heap.size 5 _ _ (0, 0) hfx.2.2.2.2.1
      have r5 := frozen_of_row wr w.heap.size 5 _ _ hfx.2.2.2.2.1
      have q6 : wr.cell? ⟨w.heap.size, 6, none⟩ = some (.slice none 0 0) := cell_of_row wr w.heap.size 6 _ _ (0, 0) hfx.2.2.2.2.1
      have r6 := frozen_of_row wr w.heap.size 6 _ _ hfx.2.2.2.2.1
      have q7 : wr.cell? ⟨w.heap.size, 7, none⟩ = some (.slice none 0 0) := cell_of_row wr w.heap.size 7 _ _ (0, 0) hfx.2.2.2.2.1
      have r7 := frozen_of_row wr w.heap.size 7 _ _ hfx.2.2.2.2.1
      have q8 : wr.cell? ⟨w.heap.size, 8, none⟩ = some (.slice none 0 0) := cell_of_row wr w.heap.size 8 _ _ (0, 0) hfx.2.2.2.2.1
      have r8 := frozen_of_row wr w.heap.size 8 _ _ hfx.2.2.2.2.1
      clear hfx hbx hfa hta hdis hFl hTl
      go_wp2
      refine bodyPost_ret (v := .agg #[.slice saf k scf, .int .i64 win, .int .i64 1, .int .i64 0, .slice sal LL.length scl, .bool ag, .slice sag LG.length scg, .slice s7a F.length s7c, .slice s8a T.length s8c]) (by simp [results, Try.results29, go_sem, q0, q1, q2, q3, q4, q5, q6, q7, q8]) rfl ?_
      refine book_end (b := ⟨turn, GF, win, ag, LL, LG, m, F, T⟩) HT.out.1 HT.out.2 HGd.out ⟨HLG.out, hm, hLGl⟩ ⟨HFl.out, hFT.out.1⟩ ⟨HTl.out, hFT.out.2⟩ HX.out hBX.out ?_
      iterate 9 (refine Touch.setCell ?_ _ _ (by simp) (by simp))
      exact Touch.refl _ _ _
/-- a book has been made: n teams -/
def BookIs (w : World) (e : Ending) (w' : World) : Prop :=
  ∃ n b vf vl vg vfa vta, (3 ≤ n ∧ n ≤ 5) ∧ e = .returned (.agg #[vf, .int .i64 b.win, .int .i64 1, .int .i64 0, vl, .bool b.ag, vg, vfa, vta]) ∧ BookI.good n 3 b ∧ BookOwn w.heap.size n b vf vl vg vfa vta w' ∧ Below w.heap.size w w'
theorem BookOwn.form {base n : Nat} {b : BookI} {vf vl vg vfa vta : Value} {w : World} (h : BookOwn base n b vf vl vg vfa vta w) :
    ∃ a1 c1 a2 c2 a3 c3 a4 c4 a5 c5, vf = .slice a1 n c1 ∧ vl = .slice a2 b.lad.length c2 ∧ vg = .slice a3 b.games.length c3 ∧ vfa = .slice a4 b.fair.length c4 ∧ vta = .slice a5 b.taken.length c5 := by
  obtain ⟨⟨xf, h1, _⟩, h2, h3, h4, h5⟩ := h
  obtain ⟨a1, c1, e1⟩ := owns_form h1
  obtain ⟨a2, c2, e2⟩ := owns_form h2
  obtain ⟨a3, c3, e3⟩ := owns_form h3
  obtain ⟨a4, c4, e4⟩ := owns_form h4
  obtain ⟨a5, c5, e5⟩ := owns_form h5
  exact ⟨a1, c1, a2, c2, a3, c3, a4, c4, a5, c5, e1, e2, e3, e4, e5⟩
theorem BookOwn.touch {base lo n : Nat} {b : BookI} {vf vl vg vfa vta : Value} {w w' : World} (h : BookOwn base n b vf vl vg vfa vta w) (T : Touch lo (lo + 1) w w') (hlo : lo + 1 ≤ base) : BookOwn lo n b vf vl vg vfa vta w' := by
  have key : ∀ {e : TypeId} {size m : Nat} {v : Value} {xs : List Value}, w.ownsRow base e size v m xs → w'.ownsRow lo e size v m xs := fun {e size m v xs} ho => owns_mono (owns_touch ho T (InW.of_owns ho) (.inr hlo)) (by omega)
  obtain ⟨⟨xf, h1, h0⟩, h2, h3, h4, h5⟩ := h
  exact ⟨⟨xf, key h1, h0⟩, key h2, key h3, key h4, key h5⟩
end Go.Proofs.Ytojkonhhaamodaa
set_option linter.unusedVariables false
namespace Go.Proofs.Ytojkonhhaamodaa
open Go.RowKit

/-- game number i has these teams -/
def atG (g : Nat → GameD) (h a : Int) (i : Nat) : Bool := (g i).home == h && (g i).away == a
/-- the five cells of a game -/
theorem game_cells {w : World} {b o : Nat} {x : GameD} (h : CellsAt w b o x.cells) : w.cell? ⟨b, o, none⟩ = some (.int .i64 x.home) ∧ w.cell? ⟨b, o + 1, none⟩ = some (.int .i64 x.away) ∧ w.cell? ⟨b, o + 2, none⟩ = some (.int .i64 x.hg) ∧
    w.cell? ⟨b, o + 3, none⟩ = some (.int .i64 x.ag) ∧ w.cell? ⟨b, o + 4, none⟩ = some (.int .i64 x.st) := ⟨h.2 0 _ rfl, h.2 1 _ rfl, h.2 2 _ rfl, h.2 3 _ rfl, h.2 4 _ rfl⟩
theorem gameOf_spec (v : Value) (n : Nat) (g : Nat → GameD) (h a : Int) (w : World) (hv : GameRow w v n g) :
    Calls Try.prog 87 #[v, .int .i64 h, .int .i64 a] w fun e w' => e = .returned (.int .i64 (firstI (atG g h a) n 0)) ∧ Below w.heap.size w w' := by
  obtain ⟨aa, cap, rfl, hn, hc⟩ := hv.form
  have HV := Lib.hid hc
  clear hc hv
  generalize hr : firstI (atG g h a) n 0 = R
  have HR := Lib.hid hr
  clear hr
  go_enter Try.func87, Try.ntmps87
  go_wp2
  go_loopw [11] (fun i wr => ∃ k : Nat, k ≤ n ∧ i = .int .i64 k ∧ Hid (firstI (atG g h a) (n - k) k = R) ∧ Below w.heap.size w wr) (fun i _ => n - (intOf i).toNat)
  case atStart => exact ⟨0, Nat.zero_le _, rfl, HR.out, Below.refl _ _⟩
  case round =>
    obtain ⟨k, hk, rfl, hp, hb⟩ := hrel
    by_cases hlt : k < n
    · obtain ⟨b, off, rfl, hcap, hc⟩ := HV.out (by omega)
      have hstep := firstI_step (p := atG g h a) hlt
      rw [hp.out] at hstep
      have HY := Lib.hid (fun (e : atG g h a k = true) => hstep.trans (if_pos e))
      have HN := Lib.hid (fun (e : atG g h a k = false) => hstep.trans (if_neg (by rw [e]; simp)))
      have hq := (hc k hlt).belowB hb (hc k hlt).1
      clear hstep
      generalize hx : g k = x at *
      have Hx := Lib.hid hx
      obtain ⟨c0, c1, c2, c3, c4⟩ := game_cells hq
      have hsz := hb.size
      have hb2 := hb.alloc hsz (.cells #[.int .i64 x.home, .int .i64 x.away, .int .i64 x.hg, .int .i64 x.ag, .int .i64 x.st] 37)
      clear hc HV hp HR hq hx
      by_cases h1 : x.home = h
      · have g1 : (x.home == h) = true := by simpa using h1
        by_cases h2 : x.away = a
        · have g2 : (x.away == a) = true := by simpa using h2
          obtain rfl := HY.out (by unfold atG; rw [Hx.out, g1, g2]; rfl)
          clear HY HN
          have H1 := Lib.hid h1
          have H2 := Lib.hid h2
          clear h1 h2
          go_wp2
          go_ret
          exact ⟨rfl, hb2⟩
        · have g2 : (x.away == a) = false := beq_eq_false_iff_ne.2 h2
          have HS := Lib.hid (HN.out (by unfold atG; rw [Hx.out, g1, g2]; rfl)).symm
          have H1 := Lib.hid h1
          clear HY HN h1 h2
          go_wp2
          go_roundw
          case rel => exact ⟨k + 1, by omega, by go_num, HS.out, hb2⟩
          case measure => simp [intOf]; omega
      · have g1 : (x.home == h) = false := beq_eq_false_iff_ne.2 h1
        have HS := Lib.hid (HN.out (by unfold atG; rw [Hx.out, g1]; rfl)).symm
        clear HY HN h1
        go_wp2
        go_roundw
        case rel => exact ⟨k + 1, by omega, by go_num, HS.out, hb2⟩
        case measure => simp [intOf]; omega
    · obtain rfl : k = n := by omega
      have hR : R = -1 := by rw [← hp.out, Nat.sub_self]; rfl
      subst hR
      clear hp HR
      go_wp2
      go_ret
      exact ⟨rfl, hb⟩
def betweenG (a b : Int) (t : GameD) : Bool := (t.home == a && t.away == b) || (t.home == b && t.away == a)
end Go.Proofs.Ytojkonhhaamodaa
