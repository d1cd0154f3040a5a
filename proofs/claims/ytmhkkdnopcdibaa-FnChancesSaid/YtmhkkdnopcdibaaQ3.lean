/-
  Packed: Ty, IntRec, ResCell, TyFlat.
-/
import Derived.Laws.ResultCell
import Derived.Test.YtmhkkdnopcdibaaQ1
import Derived.Test.YtmhkkdnopcdibaaQ2
set_option linter.unusedVariables false
namespace Go.Proofs.Ytmhkkdnopcdibaa
open Go.RowKit

structure Ty where
  D : Type
  n : Nat
  wt : D → Nat
  mks : D → Nat
  mkd : Int → D → D
  fit : D → Prop
  Rd : World → (Nat → Prop) → List Value → D → Prop
  Ow : World → Nat → List Value → D → List Nat → Prop
  rd_len : ∀ {w B cs d}, Rd w B cs d → cs.length = n
  rd_frame : ∀ {w w' B cs d}, Rd w B cs d → (∀ q, B q → q < w.heap.size → w'.heap[q]? = w.heap[q]?) → w.heap.size ≤ w'.heap.size → Rd w' B cs d
  rd_mono : ∀ {w B B' cs d}, Rd w B cs d → (∀ q, B q → B' q) → Rd w B' cs d
  ow_rd : ∀ {w lo cs d bs}, Ow w lo cs d bs → Rd w (fun q => q ∈ bs) cs d
  ow_frame : ∀ {w w' lo cs d bs}, Ow w lo cs d bs → (∀ q, q ∈ bs → w'.heap[q]? = w.heap[q]?) → w.heap.size ≤ w'.heap.size → Ow w' lo cs d bs
  ow_lt : ∀ {w lo cs d bs}, Ow w lo cs d bs → ∀ q, q ∈ bs → lo ≤ q ∧ q < w.heap.size
  ow_mono : ∀ {w lo lo' cs d bs}, Ow w lo cs d bs → lo' ≤ lo → Ow w lo' cs d bs
def tInt : Ty where
  D := Int
  n := 1
  wt _ := 0
  mks _ := 1
  mkd k _ := k
  fit d := IntFit d
  Rd _ _ cs d := cs = [.int .i64 d]
  Ow _ _ cs d bs := cs = [.int .i64 d] ∧ bs = []
  rd_len h := by subst h; rfl
  rd_frame h _ _ := h
  rd_mono h _ := h
  ow_rd h := h.1
  ow_frame h _ _ := h
  ow_lt h q hq := by rw [h.2] at hq; cases hq
  ow_mono h _ := h
def tBool : Ty where
  D := Bool
  n := 1
  wt _ := 0
  mks _ := 1
  mkd k _ := k.tmod 3 == 0
  fit _ := True
  Rd _ _ cs d := cs = [.bool d]
  Ow _ _ cs d bs := cs = [.bool d] ∧ bs = []
  rd_len h := by subst h; rfl
  rd_frame h _ _ := h
  rd_mono h _ := h
  ow_rd h := h.1
  ow_frame h _ _ := h
  ow_lt h q hq := by rw [h.2] at hq; cases hq
  ow_mono h _ := h
def tStr : Ty where
  D := ByteArray
  n := 1
  wt d := d.size
  mks _ := 1
  mkd k _ := mkT k.toNat
  fit d := d.size ≤ maxLen
  Rd _ _ cs d := cs = [.string d]
  Ow _ _ cs d bs := cs = [.string d] ∧ bs = []
  rd_len h := by subst h; rfl
  rd_frame h _ _ := h
  rd_mono h _ := h
  ow_rd h := h.1
  ow_frame h _ _ := h
  ow_lt h q hq := by rw [h.2] at hq; cases hq
  ow_mono h _ := h
def tTwo (a b : Ty) : Ty where
  D := a.D × b.D
  n := a.n + b.n
  wt d := a.wt d.1 + b.wt d.2
  mks d := a.mks d.1 + b.mks d.2
  mkd k d := (a.mkd k d.1, b.mkd (k + a.mks d.1) d.2)
  fit d := a.fit d.1 ∧ b.fit d.2
  Rd w B cs d := ∃ c1 c2, cs = c1 ++ c2 ∧ a.Rd w B c1 d.1 ∧ b.Rd w B c2 d.2
  Ow w lo cs d bs := ∃ c1 c2 b1 b2, cs = c1 ++ c2 ∧ bs = b1 ++ b2 ∧ a.Ow w lo c1 d.1 b1 ∧ b.Ow w lo c2 d.2 b2
  rd_len h := by obtain ⟨c1, c2, rfl, h1, h2⟩ := h; rw [List.length_append, a.rd_len h1, b.rd_len h2]
  rd_frame h hf hs := by obtain ⟨c1, c2, rfl, h1, h2⟩ := h; exact ⟨c1, c2, rfl, a.rd_frame h1 hf hs, b.rd_frame h2 hf hs⟩
  rd_mono h hB := by obtain ⟨c1, c2, rfl, h1, h2⟩ := h; exact ⟨c1, c2, rfl, a.rd_mono h1 hB, b.rd_mono h2 hB⟩
  ow_rd h := by
    obtain ⟨c1, c2, b1, b2, rfl, rfl, h1, h2⟩ := h
    exact ⟨c1, c2, rfl, a.rd_mono (a.ow_rd h1) (fun q hq => List.mem_append_left _ hq), b.rd_mono (b.ow_rd h2) (fun q hq => List.mem_append_right _ hq)⟩
  ow_frame h hf hs := by
    obtain ⟨c1, c2, b1, b2, rfl, rfl, h1, h2⟩ := h
    exact ⟨c1, c2, b1, b2, rfl, rfl, a.ow_frame h1 (fun q hq => hf q (List.mem_append_left _ hq)) hs, b.ow_frame h2 (fun q hq => hf q (List.mem_append_right _ hq)) hs⟩
  ow_lt h q hq := by
    obtain ⟨c1, c2, b1, b2, rfl, rfl, h1, h2⟩ := h
    rcases List.mem_append.1 hq with h | h
    · exact a.ow_lt h1 q h
    · exact b.ow_lt h2 q h
  ow_mono h hl := by
    obtain ⟨c1, c2, b1, b2, rfl, rfl, h1, h2⟩ := h
    exact ⟨c1, c2, b1, b2, rfl, rfl, a.ow_mono h1 hl, b.ow_mono h2 hl⟩
theorem RecRow.frame {k : Nat} {w w' : World} {v : Value} {n : Nat} {g : Nat → List Value} (h : RecRow k w v n g) (hf : 0 < n → ∀ q, v.ownBlock = some q → q < w.heap.size → w'.heap[q]? = w.heap[q]?) (hs : w.heap.size ≤ w'.heap.size) : RecRow k w' v n g := by
  rcases h with ⟨a, c, rfl, rfl⟩ | ⟨b, off, c, rfl, h0, h1, hc, h2⟩
  · exact .inl ⟨_, _, rfl, rfl⟩
  · refine .inr ⟨b, off, c, rfl, h0, h1, fun i hi => ?_, h2⟩
    have hb := (hc i hi).1
    refine ⟨Nat.lt_of_lt_of_le hb hs, fun j u hu => ?_⟩
    exact (World.cell?_of_block (w := w) (w' := w') (a := ⟨b, off + i * k + j, none⟩) (hf h0 b rfl hb)).trans ((hc i hi).2 j u hu)
theorem owns_frame {w w' : World} {base : Nat} {e : TypeId} {k : Nat} {v : Value} {n : Nat} {xs : List Value} (h : w.ownsRow base e k v n xs) (hf : ∀ q, v.ownBlock = some q → w'.heap[q]? = w.heap[q]?) : w'.ownsRow base e k v n xs := by
  refine ⟨h.1, ?_⟩
  rcases h.2 with h' | ⟨g, cap, cur, rfl, h1, h2, h3⟩
  · exact .inl h'
  · exact .inr ⟨g, cap, cur, rfl, h1, (hf g rfl).trans h2, h3⟩
def mkList {α : Type} (mks : α → Nat) (mkd : Int → α → α) : Int → List α → List α
  | _, [] => []
  | k, x :: r => mkd k x :: mkList mks mkd (k + mks x) r
theorem mkList_len {α : Type} (mks : α → Nat) (mkd : Int → α → α) : ∀ (L : List α) (k : Int), (mkList mks mkd k L).length = L.length
  | [], _ => rfl
  | _ :: r, k => by unfold mkList; rw [List.length_cons, List.length_cons, mkList_len mks mkd r]
theorem recRow_own {w : World} {base : Nat} {e : TypeId} {k : Nat} {v : Value} {n : Nat} {xs : List Value} (h : w.ownsRow base e k v n xs) (hn : n ≤ 9223372036854775807) : RecRow k w v n fun i => (xs.drop (i * k)).take k := by
  refine RecRow.of_owns h hn (fun i hi j u hu => ?_) (fun i hi => by rw [List.length_take]; omega)
  rw [List.getElem?_take] at hu
  split at hu
  · rw [List.getElem?_drop] at hu
    exact hu
  · cases hu
theorem owns_max {w : World} {base : Nat} {e : TypeId} {k : Nat} {v : Value} {n : Nat} {xs : List Value} (h : w.ownsRow base e k v n xs) : n ≤ 9223372036854775807 := by
  rcases h.2 with ⟨_, h0⟩ | ⟨g, cap, cur, _, _, _, h1, h2, _⟩
  · omega
  · unfold maxLen at h2; omega
theorem block_len {xs : List Value} {n k i : Nat} (hl : xs.length = n * k) (hi : i < n) : ((xs.drop (i * k)).take k).length = k := by
  have : i * k + k ≤ n * k := by have := Nat.mul_le_mul_right k (show i + 1 ≤ n by omega); rwa [Nat.succ_mul] at this
  rw [List.length_take, List.length_drop]
  omega
def tSl (t : TypeId) (e : Ty) : Ty where
  D := List e.D
  n := 1
  wt d := d.length + (d.map e.wt).sum
  mks d := (d.map e.mks).sum
  mkd k d := mkList e.mks e.mkd k d
  fit d := ∀ x ∈ d, e.fit x
  Rd w B cs d := ∃ (v : Value) (ce : Nat → List Value), cs = [v] ∧ RecRow e.n w v d.length ce ∧ (0 < d.length → ∀ q, v.ownBlock = some q → B q) ∧ ∀ i x, d[i]? = some x → e.Rd w B (ce i) x
  Ow w lo cs d bs := ∃ (v : Value) (xs : List Value) (f : Nat → List Nat), cs = [v] ∧ w.ownsRow lo t e.n v d.length xs ∧ (∀ i x, d[i]? = some x → e.Ow w lo ((xs.drop (i * e.n)).take e.n) x (f i)) ∧ bs = v.ownBlock.toList ++ (List.range d.length).flatMap f
  rd_len h := by obtain ⟨v, ce, rfl, _⟩ := h; rfl
  rd_frame h hf hs := by
    obtain ⟨v, ce, rfl, h1, h2, h3⟩ := h
    exact ⟨v, ce, rfl, h1.frame (fun h0 q hq hl => hf q (h2 h0 q hq) hl) hs, h2, fun i x hx => e.rd_frame (h3 i x hx) hf hs⟩
  rd_mono h hB := by
    obtain ⟨v, ce, rfl, h1, h2, h3⟩ := h
    exact ⟨v, ce, rfl, h1, fun h0 q hq => hB q (h2 h0 q hq), fun i x hx => e.rd_mono (h3 i x hx) hB⟩
  ow_rd h := by
    obtain ⟨v, xs, f, rfl, h1, h2, rfl⟩ := h
    refine ⟨v, _, rfl, recRow_own h1 (owns_max h1), fun _ q hq => List.mem_append_left _ (by rw [hq]; simp), fun i x hx => e.rd_mono (e.ow_rd (h2 i x hx)) fun q hq => List.mem_append_right _ (List.mem_flatMap.2 ⟨i, List.mem_range.2 (List.getElem?_eq_some_iff.1 hx).1, hq⟩)⟩
  ow_frame h hf hs := by
    obtain ⟨v, xs, f, rfl, h1, h2, rfl⟩ := h
    refine ⟨v, xs, f, rfl, owns_frame h1 (fun q hq => hf q (List.mem_append_left _ (by rw [hq]; simp))), fun i x hx => e.ow_frame (h2 i x hx) (fun q hq => hf q (List.mem_append_right _ (List.mem_flatMap.2 ⟨i, List.mem_range.2 (List.getElem?_eq_some_iff.1 hx).1, hq⟩))) hs, rfl⟩
  ow_lt h q hq := by
    obtain ⟨v, xs, f, rfl, h1, h2, rfl⟩ := h
    rcases List.mem_append.1 hq with h | h
    · refine h1.lt q ?_
      cases hv : v.ownBlock with
      | none => rw [hv] at h; cases h
      | some z => rw [hv] at h; simp at h; rw [h]
    · obtain ⟨i, hi, hq⟩ := List.mem_flatMap.1 h
      rename_i d0
      exact e.ow_lt (h2 i _ (List.getElem?_eq_getElem (List.mem_range.1 hi))) q hq
  ow_mono h hl := by
    obtain ⟨v, xs, f, rfl, h1, h2, rfl⟩ := h
    exact ⟨v, xs, f, rfl, owns_mono h1 hl, fun i x hx => e.ow_mono (h2 i x hx) hl, rfl⟩
def OwN (T : Ty) (w : World) (lo hi : Nat) (cs : List Value) (d : T.D) : Prop := ∃ bs, T.Ow w lo cs d bs ∧ bs.Nodup ∧ (∀ q ∈ bs, q < hi) ∧ hi ≤ w.heap.size
def RdN (T : Ty) (w : World) (lo hi : Nat) (cs : List Value) (d : T.D) : Prop := T.Rd w (fun q => lo ≤ q ∧ q < hi) cs d
def RdA (T : Ty) (w : World) (cs : List Value) (d : T.D) : Prop := T.Rd w (fun q => q < w.heap.size) cs d
section
variable {T : Ty} {w w' : World} {lo hi lo' hi' : Nat} {cs : List Value} {d : T.D}
theorem OwN.rd (h : OwN T w lo hi cs d) : RdN T w lo hi cs d := by
  obtain ⟨bs, h1, _, h3, _⟩ := h
  exact T.rd_mono (T.ow_rd h1) fun q hq => ⟨(T.ow_lt h1 q hq).1, h3 q hq⟩
theorem OwN.hi_le (h : OwN T w lo hi cs d) : hi ≤ w.heap.size := by obtain ⟨_, _, _, _, h⟩ := h; exact h
theorem OwN.frame (h : OwN T w lo hi cs d) (hf : ∀ q, lo ≤ q → q < hi → w'.heap[q]? = w.heap[q]?) (hs : w.heap.size ≤ w'.heap.size) : OwN T w' lo hi cs d := by
  obtain ⟨bs, h1, h2, h3, h4⟩ := h
  exact ⟨bs, T.ow_frame h1 (fun q hq => hf q (T.ow_lt h1 q hq).1 (h3 q hq)) hs, h2, h3, Nat.le_trans h4 hs⟩
theorem OwN.below (h : OwN T w lo hi cs d) (hb : Below w.heap.size w w') : OwN T w' lo hi cs d := h.frame (fun q _ hq => hb.block q (Nat.lt_of_lt_of_le hq h.hi_le)) hb.size
theorem OwN.touch (h : OwN T w lo hi cs d) (t : Touch lo' hi' w w') (ho : hi ≤ lo' ∨ hi' ≤ lo) : OwN T w' lo hi cs d :=
  h.frame (fun q h1 h2 => t.block q (Nat.lt_of_lt_of_le h2 h.hi_le) (by omega)) t.size
theorem OwN.mono (h : OwN T w lo hi cs d) (h1 : lo' ≤ lo) (h2 : hi ≤ hi') (h3 : hi' ≤ w.heap.size) : OwN T w lo' hi' cs d := by
  obtain ⟨bs, a1, a2, a3, _⟩ := h
  exact ⟨bs, T.ow_mono a1 h1, a2, fun q hq => Nat.lt_of_lt_of_le (a3 q hq) h2, h3⟩
theorem RdN.frame (h : RdN T w lo hi cs d) (hf : ∀ q, lo ≤ q → q < hi → q < w.heap.size → w'.heap[q]? = w.heap[q]?) (hs : w.heap.size ≤ w'.heap.size) : RdN T w' lo hi cs d :=
  T.rd_frame h (fun q hq hl => hf q hq.1 hq.2 hl) hs
theorem RdN.below (h : RdN T w lo hi cs d) (hb : Below w.heap.size w w') : RdN T w' lo hi cs d := h.frame (fun q _ _ hq => hb.block q hq) hb.size
theorem RdN.touch (h : RdN T w lo hi cs d) (t : Touch lo' hi' w w') (ho : hi ≤ lo' ∨ hi' ≤ lo) : RdN T w' lo hi cs d := h.frame (fun q h1 h2 hl => t.block q hl (by omega)) t.size
theorem RdN.all (h : RdN T w lo hi cs d) (hh : hi ≤ w.heap.size) : RdA T w cs d := T.rd_mono h fun q hq => Nat.lt_of_lt_of_le hq.2 hh
theorem RdA.below (h : RdA T w cs d) (hb : Below w.heap.size w w') : RdA T w' cs d := by
  have h1 : T.Rd w' (fun q => q < w.heap.size) cs d := T.rd_frame h (fun q hq _ => hb.block q hq) hb.size
  exact T.rd_mono h1 fun q hq => Nat.lt_of_lt_of_le hq hb.size
theorem RdA.len (h : RdA T w cs d) : cs.length = T.n := T.rd_len h
end
theorem OwN.two {a b : Ty} {w : World} {lo mi hi : Nat} {c1 c2 : List Value} {d1 : a.D} {d2 : b.D} (h1 : OwN a w lo mi c1 d1) (h2 : OwN b w mi hi c2 d2) (hm : lo ≤ mi) (hh : mi ≤ hi) : OwN (tTwo a b) w lo hi (c1 ++ c2) (d1, d2) := by
  obtain ⟨b1, a1, a2, a3, a4⟩ := h1
  obtain ⟨b2, e1, e2, e3, e4⟩ := h2
  refine ⟨b1 ++ b2, ⟨c1, c2, b1, b2, rfl, rfl, a1, b.ow_mono e1 hm⟩, List.nodup_append.2 ⟨a2, e2, fun x hx y hy => ?_⟩, fun q hq => ?_, e4⟩
  · have := a3 x hx
    have := (b.ow_lt e1 y hy).1
    omega
  · rcases List.mem_append.1 hq with h | h
    · exact Nat.lt_of_lt_of_le (a3 q h) hh
    · exact e3 q h
theorem OwN.int (w : World) (z : Int) {lo hi : Nat} (hh : hi ≤ w.heap.size) : OwN tInt w lo hi [.int .i64 z] z := ⟨[], ⟨rfl, rfl⟩, List.nodup_nil, fun q hq => (by cases hq), hh⟩
theorem OwN.bool (w : World) (z : Bool) {lo hi : Nat} (hh : hi ≤ w.heap.size) : OwN tBool w lo hi [.bool z] z := ⟨[], ⟨rfl, rfl⟩, List.nodup_nil, fun q hq => (by cases hq), hh⟩
theorem OwN.str (w : World) (z : ByteArray) {lo hi : Nat} (hh : hi ≤ w.heap.size) : OwN tStr w lo hi [.string z] z := ⟨[], ⟨rfl, rfl⟩, List.nodup_nil, fun q hq => (by cases hq), hh⟩
theorem RdA.two {a b : Ty} {w : World} {c1 c2 : List Value} {d1 : a.D} {d2 : b.D} (h1 : RdA a w c1 d1) (h2 : RdA b w c2 d2) : RdA (tTwo a b) w (c1 ++ c2) (d1, d2) := ⟨c1, c2, rfl, h1, h2⟩
theorem OwN.flat {t : TypeId} {e : Ty} {w : World} {lo hi : Nat} {v : Value} {d : List e.D} {xs : List Value} (h : w.ownsRow lo t e.n v d.length xs) (hf : ∀ i x, d[i]? = some x → e.Ow w lo ((xs.drop (i * e.n)).take e.n) x []) (h1 : ∀ q, v.ownBlock = some q → q < hi) (hh : hi ≤ w.heap.size) : OwN (tSl t e) w lo hi [v] d := by
  have e0 : ∀ n : Nat, (List.range n).flatMap (fun _ : Nat => ([] : List Nat)) = [] := fun n => by
    rw [List.flatMap_eq_nil_iff]; intro x hx; rfl
  refine ⟨v.ownBlock.toList, ⟨v, xs, fun _ => [], rfl, h, hf, by rw [e0]; simp⟩, by cases v.ownBlock <;> simp, fun q hq => h1 q ?_, hh⟩
  cases hv : v.ownBlock with
  | none => rw [hv] at hq; cases hq
  | some z => rw [hv] at hq; simp at hq; rw [hq]
end Go.Proofs.Ytmhkkdnopcdibaa
set_option linter.unusedVariables false
namespace Go.Proofs.Ytmhkkdnopcdibaa
open Go.RowKit

theorem IntRow.rec {w : World} {v : Value} {n : Nat} {g : Nat → Int} (h : IntRow w v n g) : RecRow 1 w v n fun i => [.int .i64 (g i)] := by
  rcases h with ⟨a, c, rfl, rfl⟩ | ⟨b, off, c, rfl, h0, h1, hc, h2⟩
  · exact .inl ⟨_, _, rfl, rfl⟩
  · refine .inr ⟨b, off, c, rfl, h0, h1, fun i hi => ⟨World.block_lt_of_cell? w _ (hc i hi), fun j u hu => ?_⟩, h2⟩
    cases j with
    | zero =>
      simp only [List.getElem?_cons_zero, Option.some.injEq] at hu
      subst hu
      rw [Nat.mul_one, Nat.add_zero]
      exact hc i hi
    | succ j => simp at hu
theorem RecRow.ints {w : World} {v : Value} {n : Nat} {g : Nat → Int} (h : RecRow 1 w v n fun i => [.int .i64 (g i)]) : IntRow w v n g := by
  rcases h with ⟨a, c, rfl, rfl⟩ | ⟨b, off, c, rfl, h0, h1, hc, h2⟩
  · exact .inl ⟨_, _, rfl, rfl⟩
  · exact .inr ⟨b, off, c, rfl, h0, h1, fun i hi => by have := (hc i hi).2 0 _ rfl; simpa using this, h2⟩
end Go.Proofs.Ytmhkkdnopcdibaa
set_option linter.unusedVariables false
namespace Go.Proofs.Ytmhkkdnopcdibaa
open Go.RowKit

theorem results_cell {fn : Func} {p : Tmp} {ty : TypeId} (h : fn.results = #[.cell p ty]) (tmps : Array Value) (P : Program) (w : World) :
    (results fn tmps).run P w = ((asAddr (tmps.getD p undef)).run P w).andThen fun a w₁ => (loadVar ty a).run P w₁ := by
  simp only [results, h]
  simp [Sem.run_bind, Result.andThen]
theorem post_named {Q : Exit → Act → World → Prop} {x : Exit} {a : Act} {w : World} (h : ∀ w', Hid (w' = w) → Q x a w') : Q x a w := h w rfl
def ResAt (w : World) (B k : Nat) : Prop := ∃ cs, cs.length = k ∧ BoxF w B cs
theorem ResAt.made (u : World) (cs : Array Value) (t : TypeId) : ResAt (u.alloc (.cells cs t)) u.heap.size cs.size := ⟨cs.toList, by simp, BoxF.made (Below.refl _ _) rfl⟩
theorem ResAt.made' {u : World} {cs : Array Value} {t : TypeId} {B k : Nat} (hB : u.heap.size = B) (hk : cs.size = k) : ResAt (u.alloc (.cells cs t)) B k := by subst hB hk; exact ResAt.made _ _ _
theorem ResAt.below {w w' : World} {B k : Nat} (h : ResAt w B k) (hb : Below w.heap.size w w') : ResAt w' B k := by
  obtain ⟨cs, hl, hc⟩ := h
  exact ⟨cs, hl, hc.below hb⟩
theorem ResAt.lt {w : World} {B k : Nat} (h : ResAt w B k) : B < w.heap.size := by
  obtain ⟨cs, _, hc⟩ := h
  exact hc.1
theorem ResAt.at {w : World} {B k : Nat} (h : ResAt w B k) (j : Nat) (hj : j < k) : (∃ v, w.cell? ⟨B, j, none⟩ = some v) ∧ w.frozen? ⟨B, j, none⟩ = false := by
  obtain ⟨cs, hl, hc⟩ := h
  have := hc.2 j _ (List.getElem?_eq_getElem (by omega : j < cs.length))
  exact ⟨⟨_, this.1⟩, this.2⟩
def putCs (w : World) (B : Nat) : Nat → List Value → World
  | _, [] => w
  | o, v :: vs => putCs (w.setCell ⟨B, o, none⟩ v) B (o + 1) vs
theorem BoxF.putCs {B : Nat} : ∀ (vs : List Value) (o : Nat) (w : World) (cs : List Value), BoxF w B cs → o + vs.length ≤ cs.length → BoxF (Go.Proofs.Ytmhkkdnopcdibaa.putCs w B o vs) B (setsFrom cs o vs)
  | [], _, _, _, h, _ => h
  | v :: vs, o, w, cs, h, hl => by
    simp only [List.length_cons] at hl
    exact BoxF.putCs vs (o + 1) _ _ (h.set o v (by omega)) (by simp; omega)
theorem setsFrom_all {cs vs : List Value} (h : cs.length = vs.length) : setsFrom cs 0 vs = vs := by
  refine List.ext_getElem? fun j => ?_
  by_cases hj : j < vs.length
  · have h1 := setsFrom_in vs cs 0 j vs[j] (by omega) (List.getElem?_eq_getElem hj)
    rw [Nat.zero_add] at h1
    rw [h1, List.getElem?_eq_getElem hj]
  · rw [List.getElem?_eq_none (by rw [setsFrom_len]; omega), List.getElem?_eq_none (by omega)]
theorem ResAt.put {w : World} {B k : Nat} (h : ResAt w B k) {vs : List Value} (hk : vs.length = k) : BoxF (putCs w B 0 vs) B vs := by
  obtain ⟨cs, hl, hc⟩ := h
  have := BoxF.putCs vs 0 w cs hc (by omega)
  rwa [setsFrom_all (by omega)] at this
theorem Touch.putCs {lo hi B : Nat} (h1 : lo ≤ B) (h2 : B < hi) : ∀ (vs : List Value) (o : Nat) (a w : World), Touch lo hi a w → Touch lo hi a (Go.Proofs.Ytmhkkdnopcdibaa.putCs w B o vs)
  | [], _, _, _, h => h
  | v :: vs, o, a, w, h => Touch.putCs h1 h2 vs (o + 1) a _ (h.setCell ⟨B, o, none⟩ v h1 h2)
theorem Below.putCs {C B : Nat} (h1 : C ≤ B) : ∀ (vs : List Value) (o : Nat) (a w : World), Below C a w → Below C a (Go.Proofs.Ytmhkkdnopcdibaa.putCs w B o vs)
  | [], _, _, _, h => h
  | v :: vs, o, a, w, h => Below.putCs h1 vs (o + 1) a _ (h.setCell (p := ⟨B, o, none⟩) h1 v)
theorem BoxF.of_put {w : World} {B : Nat} {cs : List Value} (h : BoxF w B cs) : ResAt w B cs.length := ⟨cs, rfl, h⟩
end Go.Proofs.Ytmhkkdnopcdibaa
set_option linter.unusedVariables false
namespace Go.Proofs.Ytmhkkdnopcdibaa
open Go.RowKit

structure FlatT (e : Ty) (c : e.D → List Value) : Prop where
  rd : ∀ {w B cs x}, e.Rd w B cs x ↔ cs = c x
  ow : ∀ {w lo cs x bs}, e.Ow w lo cs x bs ↔ cs = c x ∧ bs = []
  len : ∀ x, (c x).length = e.n
  pos : 0 < e.n
  mks : ∀ x, e.mks x = e.n
theorem flat_int : FlatT tInt fun z => [.int .i64 z] := ⟨Iff.rfl, Iff.rfl, fun _ => rfl, Nat.one_pos, fun _ => rfl⟩
theorem flat_bool : FlatT tBool fun z => [.bool z] := ⟨Iff.rfl, Iff.rfl, fun _ => rfl, Nat.one_pos, fun _ => rfl⟩
theorem flat_str : FlatT tStr fun z => [.string z] := ⟨Iff.rfl, Iff.rfl, fun _ => rfl, Nat.one_pos, fun _ => rfl⟩
theorem flat_two {a b : Ty} {ca : a.D → List Value} {cb : b.D → List Value} (ha : FlatT a ca) (hb : FlatT b cb) : FlatT (tTwo a b) fun d => ca d.1 ++ cb d.2 where
  rd := by
    intro w B cs x
    constructor
    · rintro ⟨c1, c2, rfl, h1, h2⟩
      rw [ha.rd.1 h1, hb.rd.1 h2]
    · intro h
      exact ⟨_, _, h, ha.rd.2 rfl, hb.rd.2 rfl⟩
  ow := by
    intro w lo cs x bs
    constructor
    · rintro ⟨c1, c2, b1, b2, rfl, rfl, h1, h2⟩
      rw [(ha.ow.1 h1).1, (ha.ow.1 h1).2, (hb.ow.1 h2).1, (hb.ow.1 h2).2]
      exact ⟨rfl, rfl⟩
    · rintro ⟨h, h0⟩
      exact ⟨_, _, [], [], h, h0, ha.ow.2 ⟨rfl, rfl⟩, hb.ow.2 ⟨rfl, rfl⟩⟩
  len x := by rw [List.length_append, ha.len, hb.len]; rfl
  pos := Nat.add_pos_left ha.pos _
  mks x := by show a.mks x.1 + b.mks x.2 = a.n + b.n; rw [ha.mks, hb.mks]
def cellsAt {α : Type} (c : α → List Value) (d : List α) (i : Nat) : List Value := ((d[i]?).map c).getD []
theorem cellsAt_lt {α : Type} {c : α → List Value} {d : List α} {i : Nat} {x : α} (h : d[i]? = some x) : cellsAt c d i = c x := by unfold cellsAt; rw [h]; rfl
section
variable {e : Ty} {c : e.D → List Value} {t : TypeId} {w : World} {lo hi : Nat} {v : Value} {d : List e.D}
theorem FlatT.row (hf : FlatT e c) {B : Nat → Prop} (h : (tSl t e).Rd w B [v] d) : RecRow e.n w v d.length (cellsAt c d) := by
  obtain ⟨v', ce, he, h1, _, h3⟩ := h
  simp only [List.cons.injEq, and_true] at he
  subst he
  refine h1.congr fun i hi => ?_
  obtain ⟨x, hx⟩ : ∃ x, d[i]? = some x := ⟨_, List.getElem?_eq_getElem hi⟩
  rw [cellsAt_lt hx]
  exact hf.rd.1 (h3 i x hx)
theorem FlatT.inB (hf : FlatT e c) {B : Nat → Prop} (h : (tSl t e).Rd w B [v] d) : 0 < d.length → ∀ q, v.ownBlock = some q → B q := by
  obtain ⟨v', ce, he, _, h2, _⟩ := h
  simp only [List.cons.injEq, and_true] at he
  subst he
  exact h2
theorem FlatT.reads (hf : FlatT e c) {B : Nat → Prop} (h : RecRow e.n w v d.length (cellsAt c d)) (hB : 0 < d.length → ∀ q, v.ownBlock = some q → B q) : (tSl t e).Rd w B [v] d :=
  ⟨v, _, rfl, h, hB, fun i x hx => hf.rd.2 (cellsAt_lt hx)⟩
theorem FlatT.rdA (hf : FlatT e c) : RdA (tSl t e) w [v] d ↔ RecRow e.n w v d.length (cellsAt c d) := by
  refine ⟨fun h => hf.row h, fun h => hf.reads h fun h0 q hq => ?_⟩
  rcases h with ⟨_, _, _, h1⟩ | ⟨b, off, cap, rfl, _, _, hc, _⟩
  · omega
  · have : b = q := by simpa [Value.ownBlock] using hq
    subst this
    exact (hc 0 h0).1
theorem FlatT.own (hf : FlatT e c) {xs : List Value} (h : w.ownsRow lo t e.n v d.length xs) (hc : RecCells e.n d.length xs (cellsAt c d)) (h1 : ∀ q, v.ownBlock = some q → q < hi) (hh : hi ≤ w.heap.size) : OwN (tSl t e) w lo hi [v] d := by
  refine OwN.flat h (fun i x hx => hf.ow.2 ⟨?_, rfl⟩) h1 hh
  have hi2 := (List.getElem?_eq_some_iff.1 hx).1
  have hl := block_len h.1 hi2
  refine List.ext_getElem? fun j => ?_
  by_cases hj : j < e.n
  · obtain ⟨u, hu⟩ : ∃ u, (c x)[j]? = some u := ⟨_, List.getElem?_eq_getElem (by rw [hf.len]; exact hj)⟩
    have := hc i hi2 j u (by rw [cellsAt_lt hx]; exact hu)
    rw [List.getElem?_take_of_lt hj, List.getElem?_drop, this, hu]
  · rw [List.getElem?_eq_none (by omega), List.getElem?_eq_none (by rw [hf.len]; omega)]
theorem FlatT.owned (hf : FlatT e c) (h : OwN (tSl t e) w lo hi [v] d) : (∃ xs, w.ownsRow lo t e.n v d.length xs ∧ RecCells e.n d.length xs (cellsAt c d)) ∧ InW lo hi v := by
  obtain ⟨bs, ⟨v', xs, f, he, h1, h2, rfl⟩, _, h4, _⟩ := h
  simp only [List.cons.injEq, and_true] at he
  subst he
  refine ⟨⟨xs, h1, fun i hi j u hu => ?_⟩, fun k hk => ⟨(h1.lt k hk).1, h4 k (List.mem_append_left _ (by rw [hk]; simp))⟩⟩
  obtain ⟨x, hx⟩ : ∃ x, d[i]? = some x := ⟨_, List.getElem?_eq_getElem hi⟩
  rw [cellsAt_lt hx] at hu
  have h5 := (hf.ow.1 (h2 i x hx)).1
  have hj : j < e.n := by have := (List.getElem?_eq_some_iff.1 hu).1; rw [hf.len] at this; exact this
  rw [← h5, List.getElem?_take_of_lt hj, List.getElem?_drop] at hu
  exact hu
theorem cells_of {k : Nat} {w : World} {base : Nat} {t : TypeId} {v : Value} {n : Nat} {xs : List Value} {g : Nat → List Value} (h : w.ownsRow base t k v n xs) (hr : RecRow k w v n g) (hg : ∀ i, i < n → (g i).length ≤ k) : RecCells k n xs g := by
  intro i hi j u hu
  have hj : j < k := by have := (List.getElem?_eq_some_iff.1 hu).1; have := hg i hi; omega
  have hlt : i * k + j < n * k := by have := Nat.mul_le_mul_right k (show i + 1 ≤ n by omega); rw [Nat.succ_mul] at this; omega
  rcases hr with ⟨_, _, _, h0⟩ | ⟨b, off, cap, rfl, _, _, hc, _⟩
  · omega
  · obtain ⟨g', gc, hg'⟩ : ∃ g gc, (Value.slice (some ⟨b, off, none⟩) n cap) = .slice (some ⟨g, 0, none⟩) n gc := by
      rcases h.2 with ⟨_, h0⟩ | ⟨g, cap', cur, hv, _⟩
      · omega
      · exact ⟨g, cap', hv⟩
    simp only [Value.slice.injEq, Option.some.injEq, Addr.mk.injEq, and_true, true_and] at hg'
    obtain ⟨⟨rfl, rfl⟩, rfl⟩ := hg'
    have h5 := h.cellAt (i * k + j) hlt
    have h6 := (hc i hi).2 j u hu
    rw [Nat.zero_add] at h6
    rw [h6] at h5
    exact h5.symm
theorem FlatT.made {e : Ty} {c : e.D → List Value} {t : TypeId} {w : World} {lo hi : Nat} {v : Value} {d : List e.D} (hf : FlatT e c) {xs : List Value} (h : w.ownsRow lo t e.n v d.length xs) (hr : RdA (tSl t e) w [v] d) (h1 : ∀ q, v.ownBlock = some q → q < hi) (hh : hi ≤ w.heap.size) : OwN (tSl t e) w lo hi [v] d :=
  hf.own h (cells_of h (hf.row hr) fun i hi => by rw [cellsAt_lt (List.getElem?_eq_getElem hi), hf.len]; exact Nat.le_refl _) h1 hh
theorem mkList_get {α : Type} {mks : α → Nat} {mkd : Int → α → α} {m : Nat} (hm : ∀ x, mks x = m) : ∀ (L : List α) (k : Int) (i : Nat), (mkList mks mkd k L)[i]? = (L[i]?).map (mkd (k + m * (i : Int)))
  | [], _, _ => rfl
  | x :: r, k, 0 => by unfold mkList; simp
  | x :: r, k, i + 1 => by
    unfold mkList
    rw [List.getElem?_cons_succ, List.getElem?_cons_succ, mkList_get hm r, hm]
    congr 2
    rw [Int.natCast_succ, Int.mul_add]
    omega
theorem sum_const {α : Type} {f : α → Nat} {m : Nat} (hm : ∀ x, f x = m) : ∀ L : List α, (L.map f).sum = m * L.length
  | [] => rfl
  | x :: r => by rw [List.map_cons, List.sum_cons, sum_const hm r, hm, List.length_cons, Nat.mul_succ, Nat.add_comm]
theorem sum_zero {α : Type} {f : α → Nat} (hm : ∀ x, f x = 0) (L : List α) : (L.map f).sum = 0 := by rw [sum_const hm, Nat.zero_mul]
theorem FlatT.marks (hf : FlatT e c) : (tSl t e).mks d = e.n * d.length := sum_const hf.mks d
theorem FlatT.marked (hf : FlatT e c) (k : Int) (i : Nat) {x : e.D} (hx : d[i]? = some x) : cellsAt c ((tSl t e).mkd k d) i = c (e.mkd (k + e.n * (i : Int)) x) := by
  refine cellsAt_lt ?_
  show (mkList e.mks e.mkd k d)[i]? = _
  rw [mkList_get hf.mks, hx]
  rfl
theorem marked_len (k : Int) : ((tSl t e).mkd k d).length = d.length := mkList_len _ _ _ _
end
def SzT (T : Ty) (d : T.D) (left : Int) (w : World) (e : Ending) (w' : World) : Prop := (∃ r : Int, e = .returned (.int .i64 r) ∧ (r < 0 ∨ (0 ≤ r ∧ (T.wt d : Int) + r = left))) ∧ Below w.heap.size w w'
def MadeT (T : Ty) (d : T.D) (w : World) (e : Ending) (w' : World) : Prop := ∃ v, e = .returned v ∧ OwN T w' w.heap.size w'.heap.size [v] d ∧ Below w.heap.size w w'
def MarkT (T : Ty) (cs : List Value) (d : T.D) (k : Int) (lo hi : Nat) (w : World) (e : Ending) (w' : World) : Prop := e = .returned (.int .i64 (k + T.mks d)) ∧ RdN T w' lo hi cs (T.mkd k d) ∧ Touch lo hi w w'
def HeldT (T : Ty) (d : T.D) (k : Int) (w : World) (e : Ending) (w' : World) : Prop := e = .returned (.int .i64 (k + T.mks d)) ∧ Below w.heap.size w w'
theorem rd_split {a b : Ty} {w : World} {cs : List Value} {d : (tTwo a b).D} (h : RdA (tTwo a b) w cs d) : RdA a w (cs.take a.n) d.1 ∧ RdA b w (cs.drop a.n) d.2 := by
  obtain ⟨c1, c2, rfl, h1, h2⟩ := h
  have hl := a.rd_len h1
  rw [← hl, List.take_left', List.drop_left']
  · exact ⟨h1, h2⟩
  · rfl
  · rfl
theorem rd_splitB {a b : Ty} {w : World} {B : Nat → Prop} {cs : List Value} {d : (tTwo a b).D} (h : (tTwo a b).Rd w B cs d) : a.Rd w B (cs.take a.n) d.1 ∧ b.Rd w B (cs.drop a.n) d.2 := by
  obtain ⟨c1, c2, rfl, h1, h2⟩ := h
  have hl := a.rd_len h1
  rw [← hl, List.take_left', List.drop_left']
  · exact ⟨h1, h2⟩
  · rfl
  · rfl
theorem ow_split {a b : Ty} {w : World} {lo : Nat} {cs : List Value} {d : (tTwo a b).D} {bs : List Nat} (h : (tTwo a b).Ow w lo cs d bs) : ∃ b1 b2, bs = b1 ++ b2 ∧ a.Ow w lo (cs.take a.n) d.1 b1 ∧ b.Ow w lo (cs.drop a.n) d.2 b2 := by
  obtain ⟨c1, c2, b1, b2, rfl, rfl, h1, h2⟩ := h
  have hl := a.rd_len (a.ow_rd h1)
  refine ⟨b1, b2, rfl, ?_⟩
  rw [← hl, List.take_left', List.drop_left']
  · exact ⟨h1, h2⟩
  · rfl
  · rfl
structure KeepB (bs : List Nat) (w w' : World) : Prop where
  os : w'.os = w.os
  tape : w'.tape = w.tape
  output : w'.output = w.output
  size : w.heap.size ≤ w'.heap.size
  block : ∀ k, k < w.heap.size → k ∉ bs → w'.heap[k]? = w.heap[k]?
theorem KeepB.of_below {bs : List Nat} {w w' : World} (h : Below w.heap.size w w') : KeepB bs w w' := ⟨h.os, h.tape, h.output, h.size, fun k hk _ => h.block k hk⟩
theorem KeepB.trans {b1 b2 : List Nat} {a b c : World} (h : KeepB b1 a b) (k : KeepB b2 b c) : KeepB (b1 ++ b2) a c :=
  ⟨k.os.trans h.os, k.tape.trans h.tape, k.output.trans h.output, Nat.le_trans h.size k.size, fun q hq hn => by
    rw [List.mem_append] at hn
    exact (k.block q (Nat.lt_of_lt_of_le hq h.size) (fun e => hn (.inr e))).trans (h.block q hq (fun e => hn (.inl e)))⟩
theorem KeepB.mono {b1 b2 : List Nat} {a b : World} (h : KeepB b1 a b) (hb : ∀ q, q ∈ b1 → q ∈ b2) : KeepB b2 a b := ⟨h.os, h.tape, h.output, h.size, fun q hq hn => h.block q hq (fun e => hn (hb q e))⟩
theorem KeepB.touch {bs : List Nat} {lo hi : Nat} {w w' : World} (h : KeepB bs w w') (hb : ∀ q ∈ bs, lo ≤ q ∧ q < hi) : Touch lo hi w w' :=
  ⟨h.os, h.tape, h.output, h.size, fun k hk hq => h.block k hk (fun e => by have := hb k e; omega)⟩
theorem KeepB.of_touch {g : Nat} {w w' : World} (h : Touch g (g + 1) w w') : KeepB [g] w w' := ⟨h.os, h.tape, h.output, h.size, fun k hk hn => h.block k hk (by simp at hn; omega)⟩
theorem KeepB.refl (bs : List Nat) (w : World) : KeepB bs w w := ⟨rfl, rfl, rfl, Nat.le_refl _, fun _ _ _ => rfl⟩
def MarkB (T : Ty) (cs : List Value) (d : T.D) (k : Int) (bs : List Nat) (w : World) (e : Ending) (w' : World) : Prop := e = .returned (.int .i64 (k + T.mks d)) ∧ T.Rd w' (fun q => q ∈ bs) cs (T.mkd k d) ∧ KeepB bs w w'
theorem MarkB.markT {T : Ty} {cs : List Value} {d : T.D} {k : Int} {bs : List Nat} {lo hi : Nat} {w w' : World} {e : Ending} (h : MarkB T cs d k bs w e w') (hb : ∀ q ∈ bs, lo ≤ q ∧ q < hi) : MarkT T cs d k lo hi w e w' :=
  ⟨h.1, T.rd_mono h.2.1 hb, h.2.2.touch hb⟩
theorem mark_window {T : Ty} {cs : List Value} {d : T.D} {k : Int} {lo hi : Nat} {w : World} {P : Program} {f : FuncId} {args : Array Value} (h : OwN T w lo hi cs d)
    (hc : ∀ bs, T.Ow w lo cs d bs → bs.Nodup → Calls P f args w (MarkB T cs d k bs w)) : Calls P f args w (MarkT T cs d k lo hi w) := by
  obtain ⟨bs, h1, h2, h3, _⟩ := h
  exact (hc bs h1 h2).mono fun e w' hm => hm.markT fun q hq => ⟨(T.ow_lt h1 q hq).1, h3 q hq⟩
theorem flat_blocks {e : Ty} {c : e.D → List Value} {t : TypeId} {w : World} {lo : Nat} {v : Value} {d : List e.D} {bs : List Nat} (hf : FlatT e c) (h : (tSl t e).Ow w lo [v] d bs) : bs = v.ownBlock.toList := by
  obtain ⟨v', xs, f, he, h1, h2, rfl⟩ := h
  simp only [List.cons.injEq, and_true] at he
  subst he
  have : (List.range d.length).flatMap f = [] := by
    rw [List.flatMap_eq_nil_iff]
    intro i hi
    exact (hf.ow.1 (h2 i _ (List.getElem?_eq_getElem (List.mem_range.1 hi)))).2
  rw [this, List.append_nil]
theorem flat_mark {e : Ty} {c : e.D → List Value} {t : TypeId} {w : World} {lo : Nat} {v : Value} {d : List e.D} {k : Int} {bs : List Nat} {P : Program} {f : FuncId} {args : Array Value} (hf : FlatT e c) (h : (tSl t e).Ow w lo [v] d bs)
    (hc : ∀ lo hi, OwN (tSl t e) w lo hi [v] d → Calls P f args w (MarkT (tSl t e) [v] d k lo hi w)) : Calls P f args w (MarkB (tSl t e) [v] d k bs w) := by
  have hbs := flat_blocks hf h
  have hlt := (tSl t e).ow_lt h
  cases hv : v.ownBlock with
  | none =>
    rw [hv] at hbs
    subst hbs
    refine (hc lo 0 ⟨_, h, List.nodup_nil, fun q hq => (by cases hq), Nat.zero_le _⟩).mono fun E w' ⟨h1, h2, h3⟩ => ⟨h1, (tSl t e).rd_mono h2 fun q hq => absurd hq.2 (Nat.not_lt_zero _), ⟨h3.os, h3.tape, h3.output, h3.size, fun q hq _ => h3.block q hq (.inr (Nat.zero_le _))⟩⟩
  | some g =>
    rw [hv] at hbs
    subst hbs
    have hg := hlt g (by simp)
    obtain ⟨v', xs, f', he, h1, h2, h3⟩ := h
    simp only [List.cons.injEq, and_true] at he
    subst he
    have h1' : w.ownsRow g t e.n v d.length xs := by
      refine ⟨h1.1, ?_⟩
      rcases h1.2 with h0 | ⟨g', cap, cur, rfl, _, h5⟩
      · exact .inl h0
      · have : g' = g := by simpa [Value.ownBlock] using hv
        subst this
        exact .inr ⟨_, cap, cur, rfl, Nat.le_refl _, h5⟩
    have hown : OwN (tSl t e) w g (g + 1) [v] d := OwN.flat h1' (fun i x hx => hf.ow.2 ⟨(hf.ow.1 (h2 i x hx)).1, rfl⟩) (fun q hq => by rw [hv] at hq; cases hq; exact Nat.lt_succ_self _) hg.2
    refine (hc g (g + 1) hown).mono fun E w' ⟨a1, a2, a3⟩ => ⟨a1, (tSl t e).rd_mono a2 fun q hq => ?_, KeepB.of_touch a3⟩
    have : q = g := by omega
    rw [this]; simp
def MarkC (T : Ty) (cs : List Value) (d2 : T.D) (n : Nat) (k : Int) (bs : List Nat) (w : World) (e : Ending) (w' : World) : Prop := e = .returned (.int .i64 (k + n)) ∧ T.Rd w' (fun q => q ∈ bs) cs d2 ∧ KeepB bs w w'
theorem mark_windowC {T : Ty} {cs : List Value} {d d2 : T.D} {n : Nat} {k : Int} {lo hi : Nat} {w : World} {P : Program} {f : FuncId} {args : Array Value} (h : OwN T w lo hi cs d)
    (hc : ∀ bs, T.Ow w lo cs d bs → bs.Nodup → Calls P f args w (MarkC T cs d2 n k bs w)) : Calls P f args w fun e w' => e = .returned (.int .i64 (k + n)) ∧ RdN T w' lo hi cs d2 ∧ Touch lo hi w w' := by
  obtain ⟨bs, h1, h2, h3, _⟩ := h
  have hb : ∀ q ∈ bs, lo ≤ q ∧ q < hi := fun q hq => ⟨(T.ow_lt h1 q hq).1, h3 q hq⟩
  exact (hc bs h1 h2).mono fun e w' hm => ⟨hm.1, T.rd_mono hm.2.1 hb, hm.2.2.touch hb⟩
theorem rd_slice {t : TypeId} {e : Ty} {w : World} {B : Nat → Prop} {v : Value} {d : List e.D} (h : (tSl t e).Rd w B [v] d) : ∃ a n k, v = .slice a n k := by
  obtain ⟨v', ce, he, h1, _⟩ := h
  simp only [List.cons.injEq, and_true] at he
  subst he
  obtain ⟨a, c, h2, _⟩ := h1.form
  exact ⟨a, _, c, h2⟩
theorem scalar_int {w : World} {B : Nat → Prop} {z d : Int} (h : tInt.Rd w B [.int .i64 z] d) : d = z := by
  have h1 : [Value.int .i64 z] = [.int .i64 d] := h
  simp only [List.cons.injEq, Value.int.injEq, true_and, and_true] at h1
  exact h1.symm
theorem scalar_bool {w : World} {B : Nat → Prop} {z d : Bool} (h : tBool.Rd w B [.bool z] d) : d = z := by
  have h1 : [Value.bool z] = [.bool d] := h
  simp only [List.cons.injEq, Value.bool.injEq, and_true] at h1
  exact h1.symm
theorem scalar_str {w : World} {B : Nat → Prop} {z d : ByteArray} (h : tStr.Rd w B [.string z] d) : d = z := by
  have h1 : [Value.string z] = [.string d] := h
  simp only [List.cons.injEq, Value.string.injEq, and_true] at h1
  exact h1.symm
theorem ResAt.elsewhere {w : World} {B D k : Nat} (h : ResAt w B k) (j : Nat) (u : Value) (hD : B ≠ D) : ResAt (w.setCell ⟨D, j, none⟩ u) B k := by
  obtain ⟨cs, h1, h2⟩ := h
  exact ⟨cs, h1, h2.other j u hD⟩
theorem KeepB.box {bs : List Nat} {w w' : World} {B : Nat} {cs : List Value} (h : BoxN w B cs) (k : KeepB bs w w') (hB : B ∉ bs) : BoxN w' B cs :=
  ⟨Nat.lt_of_lt_of_le h.1 k.size, fun j v hj => (World.cell?_of_block (w := w) (w' := w') (a := ⟨B, j, none⟩) (k.block B h.1 hB)).trans (h.2 j v hj)⟩
theorem KeepB.rd {T : Ty} {bs b2 : List Nat} {w w' : World} {cs : List Value} {d : T.D} (h : T.Rd w (fun q => q ∈ b2) cs d) (k : KeepB bs w w') (hd : ∀ q, q ∈ b2 → q ∉ bs) : T.Rd w' (fun q => q ∈ b2) cs d :=
  T.rd_frame h (fun q hq hl => k.block q hl (hd q hq)) k.size
theorem KeepB.ow {T : Ty} {bs b2 : List Nat} {w w' : World} {lo : Nat} {cs : List Value} {d : T.D} (h : T.Ow w lo cs d b2) (k : KeepB bs w w') (hd : ∀ q, q ∈ b2 → q ∉ bs) : T.Ow w' lo cs d b2 :=
  T.ow_frame h (fun q hq => k.block q (T.ow_lt h q hq).2 (hd q hq)) k.size
theorem scal_int {w w' : World} {lo : Nat} {bs : List Nat} {B : Nat → Prop} {cs : List Value} {d : Int} (h : tInt.Ow w lo cs d bs) : tInt.Rd w' B cs d := h.1
theorem scal_bool {w w' : World} {lo : Nat} {bs : List Nat} {B : Nat → Prop} {cs : List Value} {d : Bool} (h : tBool.Ow w lo cs d bs) : tBool.Rd w' B cs d := h.1
theorem scal_str {w w' : World} {lo : Nat} {bs : List Nat} {B : Nat → Prop} {cs : List Value} {d : ByteArray} (h : tStr.Ow w lo cs d bs) : tStr.Rd w' B cs d := h.1
theorem ret_int {x y : Int} (h : x = y) : Ending.returned (Value.int .i64 x) = .returned (.int .i64 y) := by rw [h]
end Go.Proofs.Ytmhkkdnopcdibaa
