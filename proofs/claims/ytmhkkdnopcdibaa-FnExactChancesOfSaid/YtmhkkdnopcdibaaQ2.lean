/-
  Packed: BoxF, ResCell, TyFlat, TyBnd, TyOpen, Lists, TySlc, Mat.
-/
import Derived.Laws.ResultCell
import Derived.Test.YtmhkkdnopcdibaaQ1
set_option linter.unusedVariables false
namespace Go.Proofs.Ytmhkkdnopcdibaa
open Go.RowKit

def BoxF (w : World) (B : Nat) (cs : List Value) : Prop := B < w.heap.size ∧ ∀ j v, cs[j]? = some v → w.cell? ⟨B, j, none⟩ = some v ∧ w.frozen? ⟨B, j, none⟩ = false
theorem BoxF.made {u w2 : World} {cs : Array Value} {t : TypeId} {B : Nat} (h : Below (u.alloc (.cells cs t)).heap.size (u.alloc (.cells cs t)) w2) (hB : u.heap.size = B) : BoxF w2 B cs.toList :=
  ⟨(BoxN.made h hB).1, fun j v hv => ⟨(BoxN.made h hB).2 j v hv, BoxN.free h hB j⟩⟩
theorem BoxF.box {w : World} {B : Nat} {cs : List Value} (h : BoxF w B cs) : BoxN w B cs := ⟨h.1, fun j v hv => (h.2 j v hv).1⟩
theorem BoxF.below {w w' : World} {B : Nat} {cs : List Value} (h : BoxF w B cs) (hb : Below w.heap.size w w') : BoxF w' B cs :=
  ⟨Nat.lt_of_lt_of_le h.1 hb.size, fun j v hv => ⟨(hb.cell (p := ⟨B, j, none⟩) h.1).trans (h.2 j v hv).1, (hb.frozen (p := ⟨B, j, none⟩) h.1).trans (h.2 j v hv).2⟩⟩
theorem BoxF.set {w : World} {B : Nat} {cs : List Value} (h : BoxF w B cs) (j : Nat) (u : Value) (hj : j < cs.length) : BoxF (w.setCell ⟨B, j, none⟩ u) B (cs.set j u) := by
  refine ⟨by simpa [World.setCell] using h.1, fun i v hv => ?_⟩
  have hf : ∀ (i : Nat) (v0 : Value), cs[i]? = some v0 → (w.setCell ⟨B, j, none⟩ u).frozen? ⟨B, i, none⟩ = false := fun i v0 h0 => (World.frozen?_setCell _ _ _ _).trans (h.2 i v0 h0).2
  by_cases e : i = j
  · subst e
    obtain ⟨v0, h0⟩ : ∃ v0, cs[i]? = some v0 := ⟨_, List.getElem?_eq_getElem hj⟩
    rw [List.getElem?_set_self hj] at hv
    cases hv
    refine ⟨?_, hf i v0 h0⟩
    rw [World.cell?_setCell_same' _ _ _ (by rw [(h.2 i v0 h0).1]; rfl)]
  · rw [List.getElem?_set_ne (Ne.symm e)] at hv
    refine ⟨?_, hf i v hv⟩
    rw [World.cell?_setCell_other _ _ _ _ (by intro e2; simp only [Addr.mk.injEq] at e2; omega)]
    exact (h.2 i v hv).1
theorem BoxF.other {w : World} {B D : Nat} {cs : List Value} (h : BoxF w B cs) (j : Nat) (u : Value) (hD : B ≠ D) : BoxF (w.setCell ⟨D, j, none⟩ u) B cs := by
  refine ⟨by simpa [World.setCell] using h.1, fun i v hv => ⟨?_, (World.frozen?_setCell _ _ _ _).trans (h.2 i v hv).2⟩⟩
  rw [World.cell?_setCell_other _ _ _ _ (by intro e2; simp only [Addr.mk.injEq] at e2; omega)]
  exact (h.2 i v hv).1
theorem BoxN.elsewhere {w : World} {B D : Nat} {cs : List Value} (h : BoxN w B cs) (j : Nat) (u : Value) (hD : B ≠ D) : BoxN (w.setCell ⟨D, j, none⟩ u) B cs := by
  refine ⟨by simpa [World.setCell] using h.1, fun i v hv => ?_⟩
  rw [World.cell?_setCell_other _ _ _ _ (by intro e2; simp only [Addr.mk.injEq] at e2; omega)]
  exact h.2 i v hv
end Go.Proofs.Ytmhkkdnopcdibaa
set_option linter.unusedVariables false
namespace Go.Proofs.Ytmhkkdnopcdibaa
open Go.RowKit

theorem results_cell {fn : Func} {p : Tmp} {ty : TypeId} (h : fn.results = #[.cell p ty]) (tmps : Array Value) (P : Program) (w : World) :
    (results fn tmps).run P w = ((asAddr (tmps.getD p undef)).run P w).andThen fun a w₁ => (loadVar ty a).run P w₁ := by
  simp only [results, h]
  simp [Sem.run_bind, Result.andThen]
theorem post_named {Q : Exit → Act → World → Prop} {x : Exit} {a : Act} {w : World} (h : ∀ w', Hid (w' = w) → Q x a w') : Q x a w := h w rfl
def ResAt (w : World) (B k : Nat) : Prop := ∃ cs, cs.length = k ∧ BoxF w B cs
theorem ResAt.made (u : World) (cs : Array Value) (t : TypeId) : ResAt (u.alloc (.cells cs t)) u.heap.size cs.size := ⟨cs.toList, by simp, BoxF.made (Below.refl _ _) rfl⟩
theorem ResAt.made' {u : World} {cs : Array Value} {t : TypeId} {B k : Nat} (hB : u.heap.size = B) (hk : cs.size = k) : ResAt (u.alloc (.cells cs t)) B k := by subst hB hk; exact ResAt.made _ _ _
theorem ResAt.below {w w' : World} {B k : Nat} (h : ResAt w B k) (hb : Below w.heap.size w w') : ResAt w' B k := by
  obtain ⟨cs, hl, hc⟩ := h
  exact ⟨cs, hl, hc.below hb⟩
theorem ResAt.lt {w : World} {B k : Nat} (h : ResAt w B k) : B < w.heap.size := by
  obtain ⟨cs, _, hc⟩ := h
  exact hc.1
theorem ResAt.at {w : World} {B k : Nat} (h : ResAt w B k) (j : Nat) (hj : j < k) : (∃ v, w.cell? ⟨B, j, none⟩ = some v) ∧ w.frozen? ⟨B, j, none⟩ = false := by
  obtain ⟨cs, hl, hc⟩ := h
  have := hc.2 j _ (List.getElem?_eq_getElem (by omega : j < cs.length))
  exact ⟨⟨_, this.1⟩, this.2⟩
def putCs (w : World) (B : Nat) : Nat → List Value → World
  | _, [] => w
  | o, v :: vs => putCs (w.setCell ⟨B, o, none⟩ v) B (o + 1) vs
theorem BoxF.putCs {B : Nat} : ∀ (vs : List Value) (o : Nat) (w : World) (cs : List Value), BoxF w B cs → o + vs.length ≤ cs.length → BoxF (Go.Proofs.Ytmhkkdnopcdibaa.putCs w B o vs) B (setsFrom cs o vs)
  | [], _, _, _, h, _ => h
  | v :: vs, o, w, cs, h, hl => by
    simp only [List.length_cons] at hl
    exact BoxF.putCs vs (o + 1) _ _ (h.set o v (by omega)) (by simp; omega)
theorem setsFrom_all {cs vs : List Value} (h : cs.length = vs.length) : setsFrom cs 0 vs = vs := by
  refine List.ext_getElem? fun j => ?_
  by_cases hj : j < vs.length
  · have h1 := setsFrom_in vs cs 0 j vs[j] (by omega) (List.getElem?_eq_getElem hj)
    rw [Nat.zero_add] at h1
    rw [h1, List.getElem?_eq_getElem hj]
  · rw [List.getElem?_eq_none (by rw [setsFrom_len]; omega), List.getElem?_eq_none (by omega)]
theorem ResAt.put {w : World} {B k : Nat} (h : ResAt w B k) {vs : List Value} (hk : vs.length = k) : BoxF (putCs w B 0 vs) B vs := by
  obtain ⟨cs, hl, hc⟩ := h
  have := BoxF.putCs vs 0 w cs hc (by omega)
  rwa [setsFrom_all (by omega)] at this
theorem Touch.putCs {lo hi B : Nat} (h1 : lo ≤ B) (h2 : B < hi) : ∀ (vs : List Value) (o : Nat) (a w : World), Touch lo hi a w → Touch lo hi a (Go.Proofs.Ytmhkkdnopcdibaa.putCs w B o vs)
  | [], _, _, _, h => h
  | v :: vs, o, a, w, h => Touch.putCs h1 h2 vs (o + 1) a _ (h.setCell ⟨B, o, none⟩ v h1 h2)
theorem Below.putCs {C B : Nat} (h1 : C ≤ B) : ∀ (vs : List Value) (o : Nat) (a w : World), Below C a w → Below C a (Go.Proofs.Ytmhkkdnopcdibaa.putCs w B o vs)
  | [], _, _, _, h => h
  | v :: vs, o, a, w, h => Below.putCs h1 vs (o + 1) a _ (h.setCell (p := ⟨B, o, none⟩) h1 v)
theorem BoxF.of_put {w : World} {B : Nat} {cs : List Value} (h : BoxF w B cs) : ResAt w B cs.length := ⟨cs, rfl, h⟩
end Go.Proofs.Ytmhkkdnopcdibaa
set_option linter.unusedVariables false
namespace Go.Proofs.Ytmhkkdnopcdibaa
open Go.RowKit

structure FlatT (e : Ty) (c : e.D → List Value) : Prop where
  rd : ∀ {w B cs x}, e.Rd w B cs x ↔ cs = c x
  ow : ∀ {w lo cs x bs}, e.Ow w lo cs x bs ↔ cs = c x ∧ bs = []
  len : ∀ x, (c x).length = e.n
  pos : 0 < e.n
  mks : ∀ x, e.mks x = e.n
theorem flat_int : FlatT tInt fun z => [.int .i64 z] := ⟨Iff.rfl, Iff.rfl, fun _ => rfl, Nat.one_pos, fun _ => rfl⟩
theorem flat_bool : FlatT tBool fun z => [.bool z] := ⟨Iff.rfl, Iff.rfl, fun _ => rfl, Nat.one_pos, fun _ => rfl⟩
theorem flat_str : FlatT tStr fun z => [.string z] := ⟨Iff.rfl, Iff.rfl, fun _ => rfl, Nat.one_pos, fun _ => rfl⟩
theorem flat_two {a b : Ty} {ca : a.D → List Value} {cb : b.D → List Value} (ha : FlatT a ca) (hb : FlatT b cb) : FlatT (tTwo a b) fun d => ca d.1 ++ cb d.2 where
  rd := by
    intro w B cs x
    constructor
    · rintro ⟨c1, c2, rfl, h1, h2⟩
      rw [ha.rd.1 h1, hb.rd.1 h2]
    · intro h
      exact ⟨_, _, h, ha.rd.2 rfl, hb.rd.2 rfl⟩
  ow := by
    intro w lo cs x bs
    constructor
    · rintro ⟨c1, c2, b1, b2, rfl, rfl, h1, h2⟩
      rw [(ha.ow.1 h1).1, (ha.ow.1 h1).2, (hb.ow.1 h2).1, (hb.ow.1 h2).2]
      exact ⟨rfl, rfl⟩
    · rintro ⟨h, h0⟩
      exact ⟨_, _, [], [], h, h0, ha.ow.2 ⟨rfl, rfl⟩, hb.ow.2 ⟨rfl, rfl⟩⟩
  len x := by rw [List.length_append, ha.len, hb.len]; rfl
  pos := Nat.add_pos_left ha.pos _
  mks x := by show a.mks x.1 + b.mks x.2 = a.n + b.n; rw [ha.mks, hb.mks]
def cellsAt {α : Type} (c : α → List Value) (d : List α) (i : Nat) : List Value := ((d[i]?).map c).getD []
theorem cellsAt_lt {α : Type} {c : α → List Value} {d : List α} {i : Nat} {x : α} (h : d[i]? = some x) : cellsAt c d i = c x := by unfold cellsAt; rw [h]; rfl
section
variable {e : Ty} {c : e.D → List Value} {t : TypeId} {w : World} {lo hi : Nat} {v : Value} {d : List e.D}
theorem FlatT.row (hf : FlatT e c) {B : Nat → Prop} (h : (tSl t e).Rd w B [v] d) : RecRow e.n w v d.length (cellsAt c d) := by
  obtain ⟨v', ce, he, h1, _, h3⟩ := h
  simp only [List.cons.injEq, and_true] at he
  subst he
  refine h1.congr fun i hi => ?_
  obtain ⟨x, hx⟩ : ∃ x, d[i]? = some x := ⟨_, List.getElem?_eq_getElem hi⟩
  rw [cellsAt_lt hx]
  exact hf.rd.1 (h3 i x hx)
theorem FlatT.inB (hf : FlatT e c) {B : Nat → Prop} (h : (tSl t e).Rd w B [v] d) : 0 < d.length → ∀ q, v.ownBlock = some q → B q := by
  obtain ⟨v', ce, he, _, h2, _⟩ := h
  simp only [List.cons.injEq, and_true] at he
  subst he
  exact h2
theorem FlatT.reads (hf : FlatT e c) {B : Nat → Prop} (h : RecRow e.n w v d.length (cellsAt c d)) (hB : 0 < d.length → ∀ q, v.ownBlock = some q → B q) : (tSl t e).Rd w B [v] d :=
  ⟨v, _, rfl, h, hB, fun i x hx => hf.rd.2 (cellsAt_lt hx)⟩
theorem FlatT.rdA (hf : FlatT e c) : RdA (tSl t e) w [v] d ↔ RecRow e.n w v d.length (cellsAt c d) := by
  refine ⟨fun h => hf.row h, fun h => hf.reads h fun h0 q hq => ?_⟩
  rcases h with ⟨_, _, _, h1⟩ | ⟨b, off, cap, rfl, _, _, hc, _⟩
  · omega
  · have : b = q := by simpa [Value.ownBlock] using hq
    subst this
    exact (hc 0 h0).1
theorem FlatT.own (hf : FlatT e c) {xs : List Value} (h : w.ownsRow lo t e.n v d.length xs) (hc : RecCells e.n d.length xs (cellsAt c d)) (h1 : ∀ q, v.ownBlock = some q → q < hi) (hh : hi ≤ w.heap.size) : OwN (tSl t e) w lo hi [v] d := by
  refine OwN.flat h (fun i x hx => hf.ow.2 ⟨?_, rfl⟩) h1 hh
  have hi2 := (List.getElem?_eq_some_iff.1 hx).1
  have hl := block_len h.1 hi2
  refine List.ext_getElem? fun j => ?_
  by_cases hj : j < e.n
  · obtain ⟨u, hu⟩ : ∃ u, (c x)[j]? = some u := ⟨_, List.getElem?_eq_getElem (by rw [hf.len]; exact hj)⟩
    have := hc i hi2 j u (by rw [cellsAt_lt hx]; exact hu)
    rw [List.getElem?_take_of_lt hj, List.getElem?_drop, this, hu]
  · rw [List.getElem?_eq_none (by omega), List.getElem?_eq_none (by rw [hf.len]; omega)]
theorem FlatT.owned (hf : FlatT e c) (h : OwN (tSl t e) w lo hi [v] d) : (∃ xs, w.ownsRow lo t e.n v d.length xs ∧ RecCells e.n d.length xs (cellsAt c d)) ∧ InW lo hi v := by
  obtain ⟨bs, ⟨v', xs, f, he, h1, h2, rfl⟩, _, h4, _⟩ := h
  simp only [List.cons.injEq, and_true] at he
  subst he
  refine ⟨⟨xs, h1, fun i hi j u hu => ?_⟩, fun k hk => ⟨(h1.lt k hk).1, h4 k (List.mem_append_left _ (by rw [hk]; simp))⟩⟩
  obtain ⟨x, hx⟩ : ∃ x, d[i]? = some x := ⟨_, List.getElem?_eq_getElem hi⟩
  rw [cellsAt_lt hx] at hu
  have h5 := (hf.ow.1 (h2 i x hx)).1
  have hj : j < e.n := by have := (List.getElem?_eq_some_iff.1 hu).1; rw [hf.len] at this; exact this
  rw [← h5, List.getElem?_take_of_lt hj, List.getElem?_drop] at hu
  exact hu
theorem cells_of {k : Nat} {w : World} {base : Nat} {t : TypeId} {v : Value} {n : Nat} {xs : List Value} {g : Nat → List Value} (h : w.ownsRow base t k v n xs) (hr : RecRow k w v n g) (hg : ∀ i, i < n → (g i).length ≤ k) : RecCells k n xs g := by
  intro i hi j u hu
  have hj : j < k := by have := (List.getElem?_eq_some_iff.1 hu).1; have := hg i hi; omega
  have hlt : i * k + j < n * k := by have := Nat.mul_le_mul_right k (show i + 1 ≤ n by omega); rw [Nat.succ_mul] at this; omega
  rcases hr with ⟨_, _, _, h0⟩ | ⟨b, off, cap, rfl, _, _, hc, _⟩
  · omega
  · obtain ⟨g', gc, hg'⟩ : ∃ g gc, (Value.slice (some ⟨b, off, none⟩) n cap) = .slice (some ⟨g, 0, none⟩) n gc := by
      rcases h.2 with ⟨_, h0⟩ | ⟨g, cap', cur, hv, _⟩
      · omega
      · exact ⟨g, cap', hv⟩
    simp only [Value.slice.injEq, Option.some.injEq, Addr.mk.injEq, and_true, true_and] at hg'
    obtain ⟨⟨rfl, rfl⟩, rfl⟩ := hg'
    have h5 := h.cellAt (i * k + j) hlt
    have h6 := (hc i hi).2 j u hu
    rw [Nat.zero_add] at h6
    rw [h6] at h5
    exact h5.symm
theorem FlatT.made {e : Ty} {c : e.D → List Value} {t : TypeId} {w : World} {lo hi : Nat} {v : Value} {d : List e.D} (hf : FlatT e c) {xs : List Value} (h : w.ownsRow lo t e.n v d.length xs) (hr : RdA (tSl t e) w [v] d) (h1 : ∀ q, v.ownBlock = some q → q < hi) (hh : hi ≤ w.heap.size) : OwN (tSl t e) w lo hi [v] d :=
  hf.own h (cells_of h (hf.row hr) fun i hi => by rw [cellsAt_lt (List.getElem?_eq_getElem hi), hf.len]; exact Nat.le_refl _) h1 hh
theorem mkList_get {α : Type} {mks : α → Nat} {mkd : Int → α → α} {m : Nat} (hm : ∀ x, mks x = m) : ∀ (L : List α) (k : Int) (i : Nat), (mkList mks mkd k L)[i]? = (L[i]?).map (mkd (k + m * (i : Int)))
  | [], _, _ => rfl
  | x :: r, k, 0 => by unfold mkList; simp
  | x :: r, k, i + 1 => by
    unfold mkList
    rw [List.getElem?_cons_succ, List.getElem?_cons_succ, mkList_get hm r, hm]
    congr 2
    rw [Int.natCast_succ, Int.mul_add]
    omega
theorem sum_const {α : Type} {f : α → Nat} {m : Nat} (hm : ∀ x, f x = m) : ∀ L : List α, (L.map f).sum = m * L.length
  | [] => rfl
  | x :: r => by rw [List.map_cons, List.sum_cons, sum_const hm r, hm, List.length_cons, Nat.mul_succ, Nat.add_comm]
theorem sum_zero {α : Type} {f : α → Nat} (hm : ∀ x, f x = 0) (L : List α) : (L.map f).sum = 0 := by rw [sum_const hm, Nat.zero_mul]
theorem FlatT.marks (hf : FlatT e c) : (tSl t e).mks d = e.n * d.length := sum_const hf.mks d
theorem FlatT.marked (hf : FlatT e c) (k : Int) (i : Nat) {x : e.D} (hx : d[i]? = some x) : cellsAt c ((tSl t e).mkd k d) i = c (e.mkd (k + e.n * (i : Int)) x) := by
  refine cellsAt_lt ?_
  show (mkList e.mks e.mkd k d)[i]? = _
  rw [mkList_get hf.mks, hx]
  rfl
theorem marked_len (k : Int) : ((tSl t e).mkd k d).length = d.length := mkList_len _ _ _ _
end
def SzT (T : Ty) (d : T.D) (left : Int) (w : World) (e : Ending) (w' : World) : Prop := (∃ r : Int, e = .returned (.int .i64 r) ∧ (r < 0 ∨ (0 ≤ r ∧ (T.wt d : Int) + r = left))) ∧ Below w.heap.size w w'
def MadeT (T : Ty) (d : T.D) (w : World) (e : Ending) (w' : World) : Prop := ∃ v, e = .returned v ∧ OwN T w' w.heap.size w'.heap.size [v] d ∧ Below w.heap.size w w'
def MarkT (T : Ty) (cs : List Value) (d : T.D) (k : Int) (lo hi : Nat) (w : World) (e : Ending) (w' : World) : Prop := e = .returned (.int .i64 (k + T.mks d)) ∧ RdN T w' lo hi cs (T.mkd k d) ∧ Touch lo hi w w'
def HeldT (T : Ty) (d : T.D) (k : Int) (w : World) (e : Ending) (w' : World) : Prop := e = .returned (.int .i64 (k + T.mks d)) ∧ Below w.heap.size w w'
theorem rd_split {a b : Ty} {w : World} {cs : List Value} {d : (tTwo a b).D} (h : RdA (tTwo a b) w cs d) : RdA a w (cs.take a.n) d.1 ∧ RdA b w (cs.drop a.n) d.2 := by
  obtain ⟨c1, c2, rfl, h1, h2⟩ := h
  have hl := a.rd_len h1
  rw [← hl, List.take_left', List.drop_left']
  · exact ⟨h1, h2⟩
  · rfl
  · rfl
theorem rd_splitB {a b : Ty} {w : World} {B : Nat → Prop} {cs : List Value} {d : (tTwo a b).D} (h : (tTwo a b).Rd w B cs d) : a.Rd w B (cs.take a.n) d.1 ∧ b.Rd w B (cs.drop a.n) d.2 := by
  obtain ⟨c1, c2, rfl, h1, h2⟩ := h
  have hl := a.rd_len h1
  rw [← hl, List.take_left', List.drop_left']
  · exact ⟨h1, h2⟩
  · rfl
  · rfl
theorem ow_split {a b : Ty} {w : World} {lo : Nat} {cs : List Value} {d : (tTwo a b).D} {bs : List Nat} (h : (tTwo a b).Ow w lo cs d bs) : ∃ b1 b2, bs = b1 ++ b2 ∧ a.Ow w lo (cs.take a.n) d.1 b1 ∧ b.Ow w lo (cs.drop a.n) d.2 b2 := by
  obtain ⟨c1, c2, b1, b2, rfl, rfl, h1, h2⟩ := h
  have hl := a.rd_len (a.ow_rd h1)
  refine ⟨b1, b2, rfl, ?_⟩
  rw [← hl, List.take_left', List.drop_left']
  · exact ⟨h1, h2⟩
  · rfl
  · rfl
structure KeepB (bs : List Nat) (w w' : World) : Prop where
  os : w'.os = w.os
  tape : w'.tape = w.tape
  output : w'.output = w.output
  size : w.heap.size ≤ w'.heap.size
  block : ∀ k, k < w.heap.size → k ∉ bs → w'.heap[k]? = w.heap[k]?
theorem KeepB.of_below {bs : List Nat} {w w' : World} (h : Below w.heap.size w w') : KeepB bs w w' := ⟨h.os, h.tape, h.output, h.size, fun k hk _ => h.block k hk⟩
theorem KeepB.trans {b1 b2 : List Nat} {a b c : World} (h : KeepB b1 a b) (k : KeepB b2 b c) : KeepB (b1 ++ b2) a c :=
  ⟨k.os.trans h.os, k.tape.trans h.tape, k.output.trans h.output, Nat.le_trans h.size k.size, fun q hq hn => by
    rw [List.mem_append] at hn
    exact (k.block q (Nat.lt_of_lt_of_le hq h.size) (fun e => hn (.inr e))).trans (h.block q hq (fun e => hn (.inl e)))⟩
theorem KeepB.mono {b1 b2 : List Nat} {a b : World} (h : KeepB b1 a b) (hb : ∀ q, q ∈ b1 → q ∈ b2) : KeepB b2 a b := ⟨h.os, h.tape, h.output, h.size, fun q hq hn => h.block q hq (fun e => hn (hb q e))⟩
theorem KeepB.touch {bs : List Nat} {lo hi : Nat} {w w' : World} (h : KeepB bs w w') (hb : ∀ q ∈ bs, lo ≤ q ∧ q < hi) : Touch lo hi w w' :=
  ⟨h.os, h.tape, h.output, h.size, fun k hk hq => h.block k hk (fun e => by have := hb k e; omega)⟩
theorem KeepB.of_touch {g : Nat} {w w' : World} (h : Touch g (g + 1) w w') : KeepB [g] w w' := ⟨h.os, h.tape, h.output, h.size, fun k hk hn => h.block k hk (by simp at hn; omega)⟩
theorem KeepB.refl (bs : List Nat) (w : World) : KeepB bs w w := ⟨rfl, rfl, rfl, Nat.le_refl _, fun _ _ _ => rfl⟩
def MarkB (T : Ty) (cs : List Value) (d : T.D) (k : Int) (bs : List Nat) (w : World) (e : Ending) (w' : World) : Prop := e = .returned (.int .i64 (k + T.mks d)) ∧ T.Rd w' (fun q => q ∈ bs) cs (T.mkd k d) ∧ KeepB bs w w'
theorem MarkB.markT {T : Ty} {cs : List Value} {d : T.D} {k : Int} {bs : List Nat} {lo hi : Nat} {w w' : World} {e : Ending} (h : MarkB T cs d k bs w e w') (hb : ∀ q ∈ bs, lo ≤ q ∧ q < hi) : MarkT T cs d k lo hi w e w' :=
  ⟨h.1, T.rd_mono h.2.1 hb, h.2.2.touch hb⟩
theorem mark_window {T : Ty} {cs : List Value} {d : T.D} {k : Int} {lo hi : Nat} {w : World} {P : Program} {f : FuncId} {args : Array Value} (h : OwN T w lo hi cs d)
    (hc : ∀ bs, T.Ow w lo cs d bs → bs.Nodup → Calls P f args w (MarkB T cs d k bs w)) : Calls P f args w (MarkT T cs d k lo hi w) := by
  obtain ⟨bs, h1, h2, h3, _⟩ := h
  exact (hc bs h1 h2).mono fun e w' hm => hm.markT fun q hq => ⟨(T.ow_lt h1 q hq).1, h3 q hq⟩
theorem flat_blocks {e : Ty} {c : e.D → List Value} {t : TypeId} {w : World} {lo : Nat} {v : Value} {d : List e.D} {bs : List Nat} (hf : FlatT e c) (h : (tSl t e).Ow w lo [v] d bs) : bs = v.ownBlock.toList := by
  obtain ⟨v', xs, f, he, h1, h2, rfl⟩ := h
  simp only [List.cons.injEq, and_true] at he
  subst he
  have : (List.range d.length).flatMap f = [] := by
    rw [List.flatMap_eq_nil_iff]
    intro i hi
    exact (hf.ow.1 (h2 i _ (List.getElem?_eq_getElem (List.mem_range.1 hi)))).2
  rw [this, List.append_nil]
theorem flat_mark {e : Ty} {c : e.D → List Value} {t : TypeId} {w : World} {lo : Nat} {v : Value} {d : List e.D} {k : Int} {bs : List Nat} {P : Program} {f : FuncId} {args : Array Value} (hf : FlatT e c) (h : (tSl t e).Ow w lo [v] d bs)
    (hc : ∀ lo hi, OwN (tSl t e) w lo hi [v] d → Calls P f args w (MarkT (tSl t e) [v] d k lo hi w)) : Calls P f args w (MarkB (tSl t e) [v] d k bs w) := by
  have hbs := flat_blocks hf h
  have hlt := (tSl t e).ow_lt h
  cases hv : v.ownBlock with
  | none =>
    rw [hv] at hbs
    subst hbs
    refine (hc lo 0 ⟨_, h, List.nodup_nil, fun q hq => (by cases hq), Nat.zero_le _⟩).mono fun E w' ⟨h1, h2, h3⟩ => ⟨h1, (tSl t e).rd_mono h2 fun q hq => absurd hq.2 (Nat.not_lt_zero _), ⟨h3.os, h3.tape, h3.output, h3.size, fun q hq _ => h3.block q hq (.inr (Nat.zero_le _))⟩⟩
  | some g =>
    rw [hv] at hbs
    subst hbs
    have hg := hlt g (by simp)
    obtain ⟨v', xs, f', he, h1, h2, h3⟩ := h
    simp only [List.cons.injEq, and_true] at he
    subst he
    have h1' : w.ownsRow g t e.n v d.length xs := by
      refine ⟨h1.1, ?_⟩
      rcases h1.2 with h0 | ⟨g', cap, cur, rfl, _, h5⟩
      · exact .inl h0
      · have : g' = g := by simpa [Value.ownBlock] using hv
        subst this
        exact .inr ⟨_, cap, cur, rfl, Nat.le_refl _, h5⟩
    have hown : OwN (tSl t e) w g (g + 1) [v] d := OwN.flat h1' (fun i x hx => hf.ow.2 ⟨(hf.ow.1 (h2 i x hx)).1, rfl⟩) (fun q hq => by rw [hv] at hq; cases hq; exact Nat.lt_succ_self _) hg.2
    refine (hc g (g + 1) hown).mono fun E w' ⟨a1, a2, a3⟩ => ⟨a1, (tSl t e).rd_mono a2 fun q hq => ?_, KeepB.of_touch a3⟩
    have : q = g := by omega
    rw [this]; simp
def MarkC (T : Ty) (cs : List Value) (d2 : T.D) (n : Nat) (k : Int) (bs : List Nat) (w : World) (e : Ending) (w' : World) : Prop := e = .returned (.int .i64 (k + n)) ∧ T.Rd w' (fun q => q ∈ bs) cs d2 ∧ KeepB bs w w'
theorem mark_windowC {T : Ty} {cs : List Value} {d d2 : T.D} {n : Nat} {k : Int} {lo hi : Nat} {w : World} {P : Program} {f : FuncId} {args : Array Value} (h : OwN T w lo hi cs d)
    (hc : ∀ bs, T.Ow w lo cs d bs → bs.Nodup → Calls P f args w (MarkC T cs d2 n k bs w)) : Calls P f args w fun e w' => e = .returned (.int .i64 (k + n)) ∧ RdN T w' lo hi cs d2 ∧ Touch lo hi w w' := by
  obtain ⟨bs, h1, h2, h3, _⟩ := h
  have hb : ∀ q ∈ bs, lo ≤ q ∧ q < hi := fun q hq => ⟨(T.ow_lt h1 q hq).1, h3 q hq⟩
  exact (hc bs h1 h2).mono fun e w' hm => ⟨hm.1, T.rd_mono hm.2.1 hb, hm.2.2.touch hb⟩
theorem rd_slice {t : TypeId} {e : Ty} {w : World} {B : Nat → Prop} {v : Value} {d : List e.D} (h : (tSl t e).Rd w B [v] d) : ∃ a n k, v = .slice a n k := by
  obtain ⟨v', ce, he, h1, _⟩ := h
  simp only [List.cons.injEq, and_true] at he
  subst he
  obtain ⟨a, c, h2, _⟩ := h1.form
  exact ⟨a, _, c, h2⟩
theorem scalar_int {w : World} {B : Nat → Prop} {z d : Int} (h : tInt.Rd w B [.int .i64 z] d) : d = z := by
  have h1 : [Value.int .i64 z] = [.int .i64 d] := h
  simp only [List.cons.injEq, Value.int.injEq, true_and, and_true] at h1
  exact h1.symm
theorem scalar_bool {w : World} {B : Nat → Prop} {z d : Bool} (h : tBool.Rd w B [.bool z] d) : d = z := by
  have h1 : [Value.bool z] = [.bool d] := h
  simp only [List.cons.injEq, Value.bool.injEq, and_true] at h1
  exact h1.symm
theorem scalar_str {w : World} {B : Nat → Prop} {z d : ByteArray} (h : tStr.Rd w B [.string z] d) : d = z := by
  have h1 : [Value.string z] = [.string d] := h
  simp only [List.cons.injEq, Value.string.injEq, and_true] at h1
  exact h1.symm
theorem ResAt.elsewhere {w : World} {B D k : Nat} (h : ResAt w B k) (j : Nat) (u : Value) (hD : B ≠ D) : ResAt (w.setCell ⟨D, j, none⟩ u) B k := by
  obtain ⟨cs, h1, h2⟩ := h
  exact ⟨cs, h1, h2.other j u hD⟩
theorem KeepB.box {bs : List Nat} {w w' : World} {B : Nat} {cs : List Value} (h : BoxN w B cs) (k : KeepB bs w w') (hB : B ∉ bs) : BoxN w' B cs :=
  ⟨Nat.lt_of_lt_of_le h.1 k.size, fun j v hj => (World.cell?_of_block (w := w) (w' := w') (a := ⟨B, j, none⟩) (k.block B h.1 hB)).trans (h.2 j v hj)⟩
theorem KeepB.rd {T : Ty} {bs b2 : List Nat} {w w' : World} {cs : List Value} {d : T.D} (h : T.Rd w (fun q => q ∈ b2) cs d) (k : KeepB bs w w') (hd : ∀ q, q ∈ b2 → q ∉ bs) : T.Rd w' (fun q => q ∈ b2) cs d :=
  T.rd_frame h (fun q hq hl => k.block q hl (hd q hq)) k.size
theorem KeepB.ow {T : Ty} {bs b2 : List Nat} {w w' : World} {lo : Nat} {cs : List Value} {d : T.D} (h : T.Ow w lo cs d b2) (k : KeepB bs w w') (hd : ∀ q, q ∈ b2 → q ∉ bs) : T.Ow w' lo cs d b2 :=
  T.ow_frame h (fun q hq => k.block q (T.ow_lt h q hq).2 (hd q hq)) k.size
theorem scal_int {w w' : World} {lo : Nat} {bs : List Nat} {B : Nat → Prop} {cs : List Value} {d : Int} (h : tInt.Ow w lo cs d bs) : tInt.Rd w' B cs d := h.1
theorem scal_bool {w w' : World} {lo : Nat} {bs : List Nat} {B : Nat → Prop} {cs : List Value} {d : Bool} (h : tBool.Ow w lo cs d bs) : tBool.Rd w' B cs d := h.1
theorem scal_str {w w' : World} {lo : Nat} {bs : List Nat} {B : Nat → Prop} {cs : List Value} {d : ByteArray} (h : tStr.Ow w lo cs d bs) : tStr.Rd w' B cs d := h.1
theorem ret_int {x y : Int} (h : x = y) : Ending.returned (Value.int .i64 x) = .returned (.int .i64 y) := by rw [h]
end Go.Proofs.Ytmhkkdnopcdibaa
set_option linter.unusedVariables false
namespace Go.Proofs.Ytmhkkdnopcdibaa
open Go.RowKit

theorem OwN.rdA {T : Ty} {w : World} {lo hi : Nat} {cs : List Value} {d : T.D} (h : OwN T w lo hi cs d) : RdA T w cs d := h.rd.all h.hi_le
def Bnd (T : Ty) (c : Nat) : Prop := ∀ d, T.mks d ≤ c * (T.wt d + 1)
theorem bnd_int : Bnd tInt 1 := fun d => by show 1 ≤ 1 * (0 + 1); omega
theorem bnd_bool : Bnd tBool 1 := fun d => by show 1 ≤ 1 * (0 + 1); omega
theorem bnd_str : Bnd tStr 1 := fun d => by show 1 ≤ 1 * (d.size + 1); omega
theorem bnd_two {a b : Ty} {ca cb : Nat} (ha : Bnd a ca) (hb : Bnd b cb) : Bnd (tTwo a b) (ca + cb) := fun d => by
  have h1 := ha d.1
  have h2 := hb d.2
  show a.mks d.1 + b.mks d.2 ≤ (ca + cb) * (a.wt d.1 + b.wt d.2 + 1)
  have h3 : ca * (a.wt d.1 + 1) ≤ ca * (a.wt d.1 + b.wt d.2 + 1) := Nat.mul_le_mul_left _ (by omega)
  have h4 : cb * (b.wt d.2 + 1) ≤ cb * (a.wt d.1 + b.wt d.2 + 1) := Nat.mul_le_mul_left _ (by omega)
  rw [Nat.add_mul]
  omega
theorem bnd_sl {t : TypeId} {e : Ty} {c : Nat} (h : Bnd e c) : Bnd (tSl t e) c := fun d => by
  have key : ∀ L : List e.D, (L.map e.mks).sum ≤ c * (L.length + (L.map e.wt).sum) := by
    intro L
    induction L with
    | nil => exact Nat.zero_le _
    | cons x L ih =>
      have := h x
      rw [List.map_cons, List.sum_cons, List.map_cons, List.sum_cons, List.length_cons]
      have e1 : c * (L.length + 1 + (e.wt x + (L.map e.wt).sum)) = c * (e.wt x + 1) + c * (L.length + (L.map e.wt).sum) := by rw [← Nat.mul_add]; congr 1; omega
      omega
  exact Nat.le_trans (key d) (Nat.mul_le_mul_left _ (Nat.le_succ _))
theorem Bnd.le {T : Ty} {c : Nat} (h : Bnd T c) {d : T.D} (hw : T.wt d ≤ 1048576) (hc : c ≤ 1000) : T.mks d ≤ 2000000000 := by
  have h1 := h d
  have h2 : c * (T.wt d + 1) ≤ 1000 * 1048577 := Nat.mul_le_mul hc (by omega)
  omega
end Go.Proofs.Ytmhkkdnopcdibaa
set_option linter.unusedVariables false
namespace Go.Proofs.Ytmhkkdnopcdibaa
open Go.RowKit Go.ChangeShapes Go.WideShapes Go.Joins Go.Deep

def Opens (P : Program) (t : TypeId) (T : Ty) : Prop :=
  P.cellsOf t = T.n ∧ 0 < T.n ∧ ∀ {H : Type} (enc : TypeId × Value → H) (w : World) (base : Nat) (held : Bool) (fuel : Nat) (cs : List Value) (x : DataW H × List MemPlace),
    DataW.trod enc P w base (fun _ => true) held fuel t cs = some x → ∃ d, RdA T w cs d ∧ T.fit d
theorem opens_int {P : Program} {t : TypeId} (h : P.underlying t = some (.int .i64)) (hc : P.cellsOf t = 1) : Opens P t tInt := ⟨hc, Nat.one_pos, fun enc w base held fuel cs x hx => by
  obtain ⟨z, e, _, hw⟩ := DataW.trod_int h hx
  exact ⟨z, e, intFit_of hw⟩⟩
theorem opens_bool {P : Program} {t : TypeId} (h : P.underlying t = some .bool) (hc : P.cellsOf t = 1) : Opens P t tBool := ⟨hc, Nat.one_pos, fun enc w base held fuel cs x hx => by
  obtain ⟨z, e, _⟩ := DataW.trod_bool h hx
  exact ⟨z, e, trivial⟩⟩
theorem opens_str {P : Program} {t : TypeId} (h : P.underlying t = some .string) (hc : P.cellsOf t = 1) : Opens P t tStr := ⟨hc, Nat.one_pos, fun enc w base held fuel cs x hx => by
  obtain ⟨z, e, _, hz⟩ := DataW.trod_string h hx
  exact ⟨z, e, hz⟩⟩
theorem choose_all {α : Type} {n : Nat} {p : Nat → α → Prop} (h : ∀ i, i < n → ∃ x, p i x) : ∃ L : List α, L.length = n ∧ ∀ i x, L[i]? = some x → p i x := by
  induction n with
  | zero => exact ⟨[], rfl, fun i x hx => by simp at hx⟩
  | succ n ih =>
    obtain ⟨L, h1, h2⟩ := ih fun i hi => h i (by omega)
    obtain ⟨y, hy⟩ := h n (by omega)
    refine ⟨L ++ [y], by simp [h1], fun i x hx => ?_⟩
    by_cases hi : i < L.length
    · rw [List.getElem?_append_left hi] at hx
      exact h2 i x hx
    · rw [List.getElem?_append_right (by omega)] at hx
      have : i - L.length = 0 := by have := (List.getElem?_eq_some_iff.1 hx).1; simp at this; omega
      rw [this] at hx
      simp at hx
      subst hx
      have : i = n := by omega
      rw [this]; exact hy
theorem opens_sl {P : Program} {t te : TypeId} {e : Ty} (h : P.underlying t = some (.slice te)) (hc : P.cellsOf t = 1) (he : Opens P te e) {tt : TypeId} : Opens P t (tSl tt e) := ⟨hc, Nat.one_pos, fun enc w base held fuel cs x hx => by
  obtain ⟨ce, hn0, he⟩ := he
  rcases Go.Deep.open_slice h hx with ⟨rfl, _⟩ | ⟨a, len, cap, m, q, Dx, Pl, rfl, hb, hl, hm, hmm, _, hel⟩
  · exact ⟨[], ⟨_, fun _ => [], rfl, .inl ⟨_, _, rfl, rfl⟩, fun h => absurd h (by simp), fun i x hx => by simp at hx⟩, fun x hx => by cases hx⟩
  have hlm : len ≤ m := by rw [hmm]; split <;> omega
  have each : ∀ i, i < len → ∃ x : List Value × e.D, (∀ j u, x.1[j]? = some u → w.cell? ((a.add (i * e.n)).add j) = some u) ∧ x.1.length = e.n ∧ RdA e w x.1 x.2 ∧ e.fit x.2 := by
    intro i hi
    obtain ⟨cs', h1, h2⟩ := hel i (by omega)
    rw [ce] at h1
    obtain ⟨_, hlen, hcell⟩ := World.cells?_some h1
    obtain ⟨d, hd, hf⟩ := he enc w base held q cs' _ h2
    exact ⟨(cs', d), fun j u hu => (hcell j (by have := (List.getElem?_eq_some_iff.1 hu).1; simpa [hlen] using this)).trans hu, hlen, hd, hf⟩
  obtain ⟨L, hL, hp⟩ := choose_all each
  have hlenD : (L.map Prod.snd).length = len := by rw [List.length_map, hL]
  refine ⟨L.map Prod.snd, ?_, fun y hy => ?_⟩
  · unfold maxLen at hm
    refine ⟨.slice (some a) len cap, fun i => ((L[i]?).map Prod.fst).getD [], rfl, ?_, ?_, fun i y hy => ?_⟩
    · rw [hlenD]
      by_cases h0 : len = 0
      · subst h0; exact .inl ⟨_, _, rfl, rfl⟩
      · obtain ⟨y0, hy0⟩ : ∃ y, L[0]? = some y := ⟨_, List.getElem?_eq_getElem (by omega)⟩
        obtain ⟨u0, hu0⟩ : ∃ u, y0.1[0]? = some u := ⟨_, List.getElem?_eq_getElem (by have := (hp 0 y0 hy0).2.1; omega)⟩
        have hc0 := (hp 0 y0 hy0).1 0 u0 hu0
        obtain ⟨b, off, spot⟩ := a
        have hspot : spot = none := by simpa [Addr.add] using World.cell?_spot hc0
        subst hspot
        refine .inr ⟨b, off, cap, rfl, by omega, by omega, fun i hi => ?_, hl⟩
        obtain ⟨y, hy⟩ : ∃ y, L[i]? = some y := ⟨_, List.getElem?_eq_getElem (by omega)⟩
        have hadd : ∀ o j : Nat, (⟨b, o, none⟩ : Addr).add j = ⟨b, o + j, none⟩ := fun o j => by unfold Addr.add; split <;> simp_all
        have hyc := (hp i y hy).1
        simp only [hy, Option.map_some, Option.getD_some]
        refine ⟨?_, fun j u hu => ?_⟩
        · obtain ⟨u, hu⟩ : ∃ u, y.1[0]? = some u := ⟨_, List.getElem?_eq_getElem (by have := (hp i y hy).2.1; omega)⟩
          have := hyc 0 u hu
          rw [hadd, hadd] at this
          exact World.block_lt_of_cell? w _ this
        · have := hyc j u hu
          rw [hadd, hadd] at this
          exact this
    · intro h0 z hz
      have hz2 : a.block = z := by simpa [Value.ownBlock] using hz
      subst hz2
      obtain ⟨y0, hy0⟩ : ∃ y, L[0]? = some y := ⟨_, List.getElem?_eq_getElem (by omega)⟩
      obtain ⟨u0, hu0⟩ : ∃ u, y0.1[0]? = some u := ⟨_, List.getElem?_eq_getElem (by have := (hp 0 y0 hy0).2.1; omega)⟩
      have := World.block_lt_of_cell? w _ ((hp 0 y0 hy0).1 0 u0 hu0)
      simpa [Addr.add] using this
    · rw [List.getElem?_map] at hy
      obtain ⟨z, hz, rfl⟩ := Option.map_eq_some_iff.1 hy
      simp only [hz, Option.map_some, Option.getD_some]
      exact (hp i z hz).2.2.1
  · obtain ⟨z, hz, rfl⟩ := List.mem_map.1 hy
    obtain ⟨i, hi⟩ := List.mem_iff_getElem?.1 hz
    exact (hp i z hi).2.2.2⟩
def Flds (P : Program) : List Field → Nat → Ty → Prop
  | [], _, _ => False
  | [f], o, T => f.offset = o ∧ Opens P f.type T
  | f :: g :: r, o, T => f.offset = o ∧ ∃ a b, T = tTwo a b ∧ Opens P f.type a ∧ Flds P (g :: r) (o + a.n) b
theorem flds_open {P : Program} {H : Type} (enc : TypeId × Value → H) (w : World) (base : Nat) (held : Bool) (n : Nat) (cs : List Value) (xs : List (DataW H × List MemPlace)) :
    ∀ (fs : List Field) (o k : Nat) (T : Ty), Flds P fs o T → (∀ i f, fs[i]? = some f → DataW.trod enc P w base (fun _ => true) held n f.type ((cs.drop f.offset).take (P.cellsOf f.type)) = xs[k + i]?) → k + fs.length = xs.length →
      0 < T.n ∧ ∃ d, RdA T w ((cs.drop o).take T.n) d ∧ T.fit d
  | [], _, _, _, h, _, _ => False.elim h
  | [f], o, k, T, h, hf, hl => by
    obtain ⟨h1, h2, h3, h4⟩ := h
    have h5 := hf 0 f rfl
    rw [h1, h2, Nat.add_zero] at h5
    obtain ⟨x, hx⟩ : ∃ x, xs[k]? = some x := ⟨_, List.getElem?_eq_getElem (by simp at hl; omega)⟩
    rw [hx] at h5
    exact ⟨h3, h4 enc w base held n _ _ h5⟩
  | f :: g :: r, o, k, T, h, hf, hl => by
    obtain ⟨h1, a, b, rfl, ⟨h2, h3, h4⟩, h5⟩ := h
    have h6 := hf 0 f rfl
    rw [h1, h2, Nat.add_zero] at h6
    obtain ⟨x, hx⟩ : ∃ x, xs[k]? = some x := ⟨_, List.getElem?_eq_getElem (by simp at hl; omega)⟩
    rw [hx] at h6
    obtain ⟨d1, r1, f1⟩ := h4 enc w base held n _ _ h6
    obtain ⟨hn, d2, r2, f2⟩ := flds_open enc w base held n cs xs (g :: r) (o + a.n) (k + 1) b h5 (fun i f' hf' => by have := hf (i + 1) f' (by simpa using hf'); rw [this]; congr 1; omega) (by simp at hl ⊢; omega)
    refine ⟨Nat.add_pos_left h3 _, (d1, d2), ?_, f1, f2⟩
    have e : (cs.drop o).take (a.n + b.n) = (cs.drop o).take a.n ++ (cs.drop (o + a.n)).take b.n := by rw [List.take_add, List.drop_drop]
    show RdA (tTwo a b) w ((cs.drop o).take (a.n + b.n)) (d1, d2)
    rw [e]
    exact r1.two r2
theorem opens_struct {P : Program} {t : TypeId} {fs : Array Field} {T : Ty} (h : P.underlying t = some (.struct fs)) (hc : P.cellsOf t = T.n) (hf : Flds P fs.toList 0 T) : Opens P t T := by
  have hpos : ∀ (fs : List Field) (o : Nat) (T : Ty), Flds P fs o T → 0 < T.n := by
    intro fs
    induction fs with
    | nil => intro o T h; exact False.elim h
    | cons f r ih =>
      intro o T h
      cases r with
      | nil => exact h.2.2.1
      | cons g r => obtain ⟨_, a, b, rfl, h2, _⟩ := h; exact Nat.add_pos_left h2.2.1 _
  refine ⟨hc, hpos _ _ _ hf, fun enc w base held fuel cs x hx => ?_⟩
  obtain ⟨xs, n, _, _, hcl, hxl, hg⟩ := DataW.trod_struct h hx
  obtain ⟨_, d, h1, h2⟩ := flds_open enc w base held n cs xs fs.toList 0 0 T hf (fun i f hi => by rw [hg i f (by simpa using hi)]; congr 1; omega) (by simp [hxl])
  rw [List.drop_zero, List.take_of_length_le (by rw [hcl, hc]; exact Nat.le_refl _)] at h1
  exact ⟨d, h1, h2⟩
theorem open_arg {P : Program} {t : TypeId} {T : Ty} {H : Type} {enc : TypeId × Value → H} {w : World} {base : Nat} {held : Bool} {r : Reach} {b0 : Nat} {fs : Array Field} {v : Value} {d : DataW H} {p : List MemPlace} (ho : Opens P t T) (hs : P.underlying t = some (.struct fs)) (hv : Value.okWide P w r b0 t v)
    (h : DataW.Trod enc P w base (fun _ => true) held t v d p) : ∃ cs : Array Value, v = .agg cs ∧ ∃ d, RdA T w cs.toList d ∧ T.fit d := by
  obtain ⟨cs, rfl, _⟩ := okWide_struct hs hv
  obtain ⟨fuel, hf⟩ := h
  obtain ⟨d, h1, h2⟩ := ho.2.2 enc w base held fuel _ _ hf
  exact ⟨cs, rfl, d, by simpa [Value.cells] using h1, h2⟩
theorem open_arg1 {P : Program} {t te : TypeId} {T : Ty} {H : Type} {enc : TypeId × Value → H} {w : World} {base : Nat} {held : Bool} {r : Reach} {b0 : Nat} {v : Value} {d : DataW H} {p : List MemPlace} (ho : Opens P t T) (hs : P.underlying t = some (.slice te)) (hv : Value.okWide P w r b0 t v)
    (h : DataW.Trod enc P w base (fun _ => true) held t v d p) : ∃ d, RdA T w [v] d ∧ T.fit d := by
  obtain ⟨a, len, cap, rfl⟩ := okWide_slice hs hv
  obtain ⟨fuel, hf⟩ := h
  exact ho.2.2 enc w base held fuel _ _ (by simpa [Value.cells] using hf)
end Go.Proofs.Ytmhkkdnopcdibaa
set_option linter.unusedVariables false
namespace Go.Proofs.Ytmhkkdnopcdibaa
open Go.RowKit

def gapA {α : Type} (L : List α) (j : Nat) (u : α) : List α := L.take j ++ u :: L.drop j
section
variable {α β : Type} {L : List α} {j : Nat} {u x : α}
theorem gapA_len (h : j ≤ L.length) : (gapA L j u).length = L.length + 1 := by
  unfold gapA; simp; omega
theorem gapA_get {i : Nat} (h : i < j) (hj : j ≤ L.length) : (gapA L j u)[i]? = L[i]? := by
  unfold gapA
  rw [List.getElem?_append_left (by simp; omega), List.getElem?_take_of_lt h]
theorem gapA_set (hj : j ≤ L.length) : (gapA L j u).set j x = gapA L j x := by
  unfold gapA
  rw [List.set_append_right _ _ (by simp; omega)]
  simp [Nat.min_eq_left hj]
theorem gapA_step (h : L[j]? = some x) : gapA L (j + 1) x = gapA L j x := by
  have hj : j < L.length := (List.getElem?_eq_some_iff.1 h).1
  have hx : L[j] = x := (List.getElem?_eq_some_iff.1 h).2
  unfold gapA
  rw [(List.take_append_getElem hj).symm, List.drop_eq_getElem_cons hj, hx]
  simp only [List.append_assoc, List.cons_append, List.nil_append]
theorem gapA_end : gapA L L.length u = L ++ [u] := by
  unfold gapA; simp
theorem gapA_map (f : α → β) : (gapA L j u).map f = gapA (L.map f) j (f u) := by
  unfold gapA; simp
theorem gapA_mem {y : α} (h : y ∈ gapA L j u) : y = u ∨ y ∈ L := by
  unfold gapA at h
  rcases List.mem_append.1 h with h | h
  · exact .inr (List.mem_of_mem_take h)
  · rcases List.mem_cons.1 h with h | h
    · exact .inl h
    · exact .inr (List.mem_of_mem_drop h)
theorem gapA_pairwise {R : α → α → Prop} (hL : L.Pairwise R) (h1 : ∀ y ∈ L, R y u) (h2 : ∀ y ∈ L, R u y) : (gapA L j u).Pairwise R := by
  unfold gapA
  rw [List.pairwise_append, List.pairwise_cons]
  refine ⟨hL.sublist (List.take_sublist _ _), ⟨fun y hy => h2 y (List.mem_of_mem_drop hy), hL.sublist (List.drop_sublist _ _)⟩, fun a ha b hb => ?_⟩
  rcases List.mem_cons.1 hb with rfl | hb
  · exact h1 a (List.mem_of_mem_take ha)
  · have h3 : (L.take j ++ L.drop j).Pairwise R := by rw [List.take_append_drop]; exact hL
    exact (List.pairwise_append.1 h3).2.2 a ha b hb
end
def leadV {α : Type} (f : α → Int) (v : Int) : List α → Nat
  | [] => 0
  | y :: L => if v < f y then leadV f v L + 1 else 0
section
variable {α : Type} {f : α → Int} {v : Int}
theorem leadV_le (L : List α) : leadV f v L ≤ L.length := by
  induction L with
  | nil => exact Nat.le_refl _
  | cons y L ih => unfold leadV; split <;> simp <;> omega
theorem leadV_lt (L : List α) : ∀ i x, i < leadV f v L → L[i]? = some x → v < f x := by
  induction L with
  | nil => intro i x hi; exact absurd hi (by simp [leadV])
  | cons y L ih =>
    intro i x hi hx
    unfold leadV at hi
    split at hi
    · next h =>
      cases i with
      | zero => simp at hx; rw [← hx]; exact h
      | succ i => exact ih i x (by omega) (by simpa using hx)
    · omega
theorem leadV_ge (L : List α) : ∀ x, L[leadV f v L]? = some x → ¬ v < f x := by
  induction L with
  | nil => intro x h; simp at h
  | cons y L ih =>
    intro x h
    unfold leadV at h
    split at h
    · next hy => exact ih x (by simpa using h)
    · next hy => simp at h; rw [← h]; exact hy
end
def insP (v t : Int) : List (Int × List Int) → List (Int × List Int)
  | [] => [(v, [t])]
  | (u, p) :: r => if v < u then (u, p) :: insP v t r else if u = v then (u, p ++ [t]) :: r else (v, [t]) :: (u, p) :: r
theorem insP_new (v t : Int) : ∀ L : List (Int × List Int), (∀ x, L[leadV Prod.fst v L]? = some x → x.1 ≠ v) → insP v t L = gapA L (leadV Prod.fst v L) (v, [t])
  | [], _ => rfl
  | (u, p) :: r, h => by
    unfold insP leadV
    by_cases hu : v < u
    · rw [if_pos hu, if_pos hu, insP_new v t r (fun x hx => h x (by unfold leadV; rw [if_pos hu]; simpa using hx))]
      simp [gapA]
    · rw [if_neg hu, if_neg hu]
      have : u ≠ v := h (u, p) (by unfold leadV; rw [if_neg hu]; rfl)
      rw [if_neg this]
      simp [gapA]
theorem insP_old (v t : Int) : ∀ (L : List (Int × List Int)) (p : List Int), L[leadV Prod.fst v L]? = some (v, p) → insP v t L = L.set (leadV Prod.fst v L) (v, p ++ [t])
  | [], p, h => by simp at h
  | (u, q) :: r, p, h => by
    unfold insP
    unfold leadV at h ⊢
    by_cases hu : v < u
    · rw [if_pos hu] at h ⊢
      rw [if_pos hu, insP_old v t r p (by simpa using h)]
      simp
    · rw [if_neg hu] at h ⊢
      simp only [List.getElem?_cons_zero, Option.some.injEq, Prod.mk.injEq] at h
      obtain ⟨rfl, rfl⟩ := h
      rw [if_neg hu, if_pos rfl]
      simp
def splitP (V : Nat → Int) (gg : Nat → Int) : Nat → List (Int × List Int)
  | 0 => []
  | k + 1 => insP (V (gg k).toNat) (gg k) (splitP V gg k)
def ApartV (v v' : Value) : Prop := ∀ k, v.ownBlock = some k → v'.ownBlock ≠ some k
theorem ApartV.symm {v v' : Value} (h : ApartV v v') : ApartV v' v := fun k h1 h2 => h k h2 h1
def ApartL (l : List Value) : Prop := l.Pairwise ApartV
def OwnT (w : World) (base : Nat) (e : TypeId) (T : List (Int × Value × List Int)) : Prop := ∀ x ∈ T, w.ownsRow base e 1 x.2.1 x.2.2.length (x.2.2.map (Value.int .i64))
theorem OwnT.kept {w w' : World} {base : Nat} {e : TypeId} {T : List (Int × Value × List Int)} {row : Option Nat} (h : OwnT w base e T) (hg : w.grownBy w' row) (hne : ∀ x ∈ T, ∀ k, x.2.1.ownBlock = some k → row ≠ some k) : OwnT w' base e T := fun x hx =>
  (h x hx).kept hg (by
    cases hv : x.2.1.ownBlock with
    | none => exact .inl rfl
    | some k => exact .inr fun e => hne x hx k hv e.symm)
theorem OwnT.below {w w' : World} {base B : Nat} {e : TypeId} {T : List (Int × Value × List Int)} (h : OwnT w base e T) (hb : Below B w w') (hB : w.heap.size ≤ B) : OwnT w' base e T := fun x hx => owns_below (h x hx) hb hB
theorem OwnT.lt {w : World} {base : Nat} {e : TypeId} {T : List (Int × Value × List Int)} (h : OwnT w base e T) {x : Int × Value × List Int} (hx : x ∈ T) {k : Nat} (hk : x.2.1.ownBlock = some k) : base ≤ k ∧ k < w.heap.size := (h x hx).lt k hk
theorem OwnT.mono {w : World} {base base' : Nat} {e : TypeId} {T : List (Int × Value × List Int)} (h : OwnT w base e T) (hb : base' ≤ base) : OwnT w base' e T := fun x hx => owns_mono (h x hx) hb
end Go.Proofs.Ytmhkkdnopcdibaa
set_option linter.unusedVariables false
namespace Go.Proofs.Ytmhkkdnopcdibaa
open Go.RowKit

theorem rd_elem {t : TypeId} {e : Ty} {w : World} {B : Nat → Prop} {v : Value} {d : List e.D} (he : e.n = 1) (h : (tSl t e).Rd w B [v] d) {i : Nat} {x : e.D} (hx : d[i]? = some x) :
    ∃ b off cap u, v = .slice (some ⟨b, off, none⟩) d.length cap ∧ d.length ≤ cap ∧ i < d.length ∧ w.cell? ⟨b, off + i, none⟩ = some u ∧ e.Rd w B [u] x := by
  obtain ⟨v', ce, hv, h1, _, h3⟩ := h
  simp only [List.cons.injEq, and_true] at hv
  subst hv
  have hi := (List.getElem?_eq_some_iff.1 hx).1
  rcases h1 with ⟨_, _, _, h0⟩ | ⟨b, off, cap, rfl, _, _, hc, hcap⟩
  · omega
  have hl := e.rd_len (h3 i x hx)
  rw [he] at hl
  obtain ⟨u, hu⟩ := List.length_eq_one_iff.1 hl
  have h4 := (hc i hi).2 0 u (by rw [hu]; rfl)
  rw [he, Nat.mul_one, Nat.add_zero] at h4
  have h5 := h3 i x hx
  rw [hu] at h5
  exact ⟨b, off, cap, u, rfl, hcap, hi, h4, h5⟩
theorem rd_cell {t : TypeId} {e : Ty} {w : World} {B : Nat → Prop} {v : Value} {d : List e.D} (he : e.n = 1) (h : (tSl t e).Rd w B [v] d) {i : Nat} {x : e.D} (hx : d[i]? = some x) :
    ∃ b off cap u, v = .slice (some ⟨b, off, none⟩) d.length cap ∧ d.length ≤ cap ∧ CellsAt w b (off + i) [u] ∧ e.Rd w B [u] x := by
  obtain ⟨b, off, cap, u, h1, h2, _, h4, h5⟩ := rd_elem he h hx
  refine ⟨b, off, cap, u, h1, h2, ⟨World.block_lt_of_cell? w _ h4, fun j y hj => ?_⟩, h5⟩
  match j, hj with
  | 0, hj => simp only [List.getElem?_cons_zero, Option.some.injEq] at hj; subst hj; exact h4
theorem rd_row_form {t : TypeId} {e : Ty} {w : World} {B : Nat → Prop} {v : Value} {d : List e.D} (h : (tSl t e).Rd w B [v] d) : ∃ a cap, v = .slice a d.length cap ∧ d.length ≤ 9223372036854775807 := by
  obtain ⟨v', ce, hv, h1, _⟩ := h
  simp only [List.cons.injEq, and_true] at hv
  subst hv
  obtain ⟨a, c, h2, h3, _⟩ := h1.form
  exact ⟨a, c, h2, h3⟩
theorem flat_nodup {f : Nat → List Nat} : ∀ {n : Nat}, ((List.range n).flatMap f).Nodup → (∀ i, i < n → (f i).Nodup) ∧ ∀ i j, i < n → j < n → i ≠ j → ∀ q, q ∈ f i → q ∉ f j
  | 0, _ => ⟨fun i hi => absurd hi (Nat.not_lt_zero _), fun i j hi => absurd hi (Nat.not_lt_zero _)⟩
  | n + 1, h => by
    rw [List.range_succ, List.flatMap_append, List.nodup_append] at h
    obtain ⟨h1, h2, h3⟩ := h
    have h2' : (f n).Nodup := by simpa using h2
    obtain ⟨a1, a2⟩ := flat_nodup h1
    have h4 : ∀ i, i < n → ∀ q, q ∈ f i → q ∉ f n := fun i hi q hq hq2 => h3 q (List.mem_flatMap.2 ⟨i, List.mem_range.2 hi, hq⟩) q (by simpa using hq2) rfl
    refine ⟨fun i hi => ?_, fun i j hi hj hne q hq hq2 => ?_⟩
    · by_cases e : i = n
      · rw [e]; exact h2'
      · exact a1 i (by omega)
    · by_cases e : i = n
      · rw [e] at hq
        exact h4 j (by omega) q hq2 hq
      · by_cases e2 : j = n
        · rw [e2] at hq2
          exact h4 i (by omega) q hq hq2
        · exact a2 i j (by omega) (by omega) hne q hq hq2
theorem mkList_at {α : Type} {mks : α → Nat} {mkd : Int → α → α} : ∀ (L : List α) (k : Int) (i : Nat), (mkList mks mkd k L)[i]? = (L[i]?).map (mkd (k + (((L.take i).map mks).sum : Nat)))
  | [], _, _ => rfl
  | x :: r, k, 0 => by unfold mkList; simp
  | x :: r, k, i + 1 => by
    unfold mkList
    rw [List.getElem?_cons_succ, List.getElem?_cons_succ, mkList_at r, List.take_succ_cons, List.map_cons, List.sum_cons]
    congr 2
    omega
theorem take_sum {α : Type} {f : α → Nat} {L : List α} {i : Nat} {x : α} (hx : L[i]? = some x) : ((L.take (i + 1)).map f).sum = ((L.take i).map f).sum + f x := by
  rw [List.take_add_one, hx, List.map_append, List.sum_append]; simp
theorem take_sum_le {α : Type} {f : α → Nat} {L : List α} (i : Nat) : ((L.take i).map f).sum ≤ (L.map f).sum := by
  have h := congrArg List.sum (congrArg (List.map f) (List.take_append_drop i L))
  rw [List.map_append, List.sum_append] at h
  omega
theorem range_flat_succ {f : Nat → List Nat} (j : Nat) : (List.range (j + 1)).flatMap f = (List.range j).flatMap f ++ f j := by
  rw [List.range_succ, List.flatMap_append]; simp
structure RowsOw (t : TypeId) (e : Ty) (w : World) (lo : Nat) (v : Value) (d : List e.D) (bs : List Nat) (f : Nat → List Nat) (us : Nat → Value) : Prop where
  row : RecRow 1 w v d.length fun i => [us i]
  own : ∀ i x, d[i]? = some x → e.Ow w lo [us i] x (f i)
  outer : ∀ q, v.ownBlock = some q → q ∈ bs ∧ ∀ i, i < d.length → q ∉ f i
  inner : ∀ i, i < d.length → ∀ q, q ∈ f i → q ∈ bs
  nodup : ∀ i, i < d.length → (f i).Nodup
  apart : ∀ i j, i < d.length → j < d.length → i ≠ j → ∀ q, q ∈ f i → q ∉ f j
theorem RowsOw.of {t : TypeId} {e : Ty} {w : World} {lo : Nat} {v : Value} {d : List e.D} {bs : List Nat} (he : e.n = 1) (h : (tSl t e).Ow w lo [v] d bs) (hnd : bs.Nodup) : ∃ f us, RowsOw t e w lo v d bs f us := by
  obtain ⟨v', xs, f, hv, h1, h2, rfl⟩ := h
  simp only [List.cons.injEq, and_true] at hv
  subst hv
  rw [List.nodup_append] at hnd
  obtain ⟨n1, n2, n3⟩ := hnd
  obtain ⟨a1, a2⟩ := flat_nodup n2
  have hx : ∀ i, i < d.length → (xs.drop (i * e.n)).take e.n = [xs.getD i undef] := fun i hi => by
    have hl := h1.1
    rw [he, Nat.mul_one] at hl
    rw [he, Nat.mul_one, List.drop_eq_getElem_cons (by omega : i < xs.length), List.getD_eq_getElem?_getD, List.getElem?_eq_getElem (by omega : i < xs.length)]
    rfl
  refine ⟨f, fun i => xs.getD i undef, ?_, fun i x hxi => ?_, fun q hq => ⟨List.mem_append_left _ (by rw [hq]; simp), fun i hi hqi => ?_⟩, fun i hi q hq => List.mem_append_right _ (List.mem_flatMap.2 ⟨i, List.mem_range.2 hi, hq⟩), a1, a2⟩
  · have h3 := recRow_own h1 (owns_max h1)
    rw [he] at h3
    exact h3.congr fun i hi => by have := hx i hi; rw [he] at this; exact this
  · have h4 := h2 i x hxi
    rw [hx i (List.getElem?_eq_some_iff.1 hxi).1] at h4
    exact h4
  · exact n3 q (by rw [hq]; simp) q (List.mem_flatMap.2 ⟨i, List.mem_range.2 hi, hqi⟩) rfl
theorem RowsOw.cell {t : TypeId} {e : Ty} {w : World} {lo : Nat} {v : Value} {d : List e.D} {bs : List Nat} {f : Nat → List Nat} {us : Nat → Value} (h : RowsOw t e w lo v d bs f us) {w' : World} {cs : List Nat} (hk : KeepB cs w w') (hc : ∀ q, v.ownBlock = some q → q ∉ cs) {i : Nat} (hi : i < d.length) :
    ∃ b off cap, v = .slice (some ⟨b, off, none⟩) d.length cap ∧ d.length ≤ cap ∧ w'.cell? ⟨b, off + i, none⟩ = some (us i) := by
  have hr := h.row.frame (w' := w') (fun _ q hq hl => hk.block q hl (hc q hq)) hk.size
  rcases hr with ⟨_, _, _, h0⟩ | ⟨b, off, cap, rfl, _, _, hcc, hcap⟩
  · omega
  · have := (hcc i hi).2 0 (us i) rfl
    rw [Nat.mul_one, Nat.add_zero] at this
    exact ⟨b, off, cap, rfl, hcap, this⟩
theorem RowsOw.done {t : TypeId} {e : Ty} {w w' : World} {lo : Nat} {v : Value} {d : List e.D} {bs : List Nat} {f : Nat → List Nat} {us : Nat → Value} (he : e.n = 1) (h : RowsOw t e w lo v d bs f us) {k : Int} (hk : KeepB ((List.range d.length).flatMap f) w w')
    (hm : ∀ i x, d[i]? = some x → e.Rd w' (fun q => q ∈ f i) [us i] (e.mkd (k + (((d.take i).map e.mks).sum : Nat)) x)) : (tSl t e).Rd w' (fun q => q ∈ bs) [v] ((tSl t e).mkd k d) ∧ KeepB bs w w' := by
  have hnot : ∀ q, v.ownBlock = some q → q ∉ (List.range d.length).flatMap f := fun q hq hqf => by
    obtain ⟨i, hi, hqi⟩ := List.mem_flatMap.1 hqf
    exact (h.outer q hq).2 i (List.mem_range.1 hi) hqi
  refine ⟨⟨v, fun i => [us i], rfl, ?_, fun _ q hq => (h.outer q hq).1, fun i x hx => ?_⟩, hk.mono fun q hq => ?_⟩
  · have hl : List.length (α := e.D) ((tSl t e).mkd k d) = d.length := mkList_len _ _ _ _
    rw [hl, he]
    exact h.row.frame (fun _ q hq hl => hk.block q hl (hnot q hq)) hk.size
  · have h1 : (mkList e.mks e.mkd k d)[i]? = some x := hx
    rw [mkList_at] at h1
    obtain ⟨y, hy, rfl⟩ := Option.map_eq_some_iff.1 h1
    exact e.rd_mono (hm i y hy) (h.inner i (List.getElem?_eq_some_iff.1 hy).1)
  · obtain ⟨i, hi, hqi⟩ := List.mem_flatMap.1 hq
    exact h.inner i (List.mem_range.1 hi) q hqi
theorem nodup_blocks : ∀ (L : List Value), L.Pairwise ApartV → (L.flatMap fun v => v.ownBlock.toList).Nodup
  | [], _ => List.nodup_nil
  | v :: L, h => by
    rw [List.flatMap_cons, List.nodup_append]
    obtain ⟨h1, h2⟩ := List.pairwise_cons.1 h
    refine ⟨by cases v.ownBlock <;> simp, nodup_blocks L h2, fun a ha b hb e => ?_⟩
    subst e
    obtain ⟨u, hu, hau⟩ := List.mem_flatMap.1 hb
    have a1 : v.ownBlock = some a := by
      cases hv : v.ownBlock with
      | none => rw [hv] at ha; cases ha
      | some z => rw [hv] at ha; simp at ha; rw [ha]
    have a2 : u.ownBlock = some a := by
      cases hv : u.ownBlock with
      | none => rw [hv] at hau; cases hau
      | some z => rw [hv] at hau; simp at hau; rw [hau]
    exact h1 u hu a a1 a2
end Go.Proofs.Ytmhkkdnopcdibaa
set_option linter.unusedVariables false
namespace Go.Proofs.Ytmhkkdnopcdibaa
open Go.RowKit

structure Mat (w : World) (lo hi : Nat) (gb cap : Nat) (r : Nat → Nat) (rc : Nat → Nat) (n m : Nat) (f : Nat → Nat → Value) : Prop where
  cap : n ≤ cap
  low : lo ≤ gb ∧ gb < hi
  high : hi ≤ w.heap.size
  cell : ∀ g, g < n → w.cell? ⟨gb, g, none⟩ = some (.slice (some ⟨r g, 0, none⟩) m (rc g))
  rcap : ∀ g, g < n → m ≤ rc g
  row : ∀ g, g < n → lo ≤ r g ∧ r g < hi ∧ r g ≠ gb
  diff : ∀ g h, g < n → h < n → g ≠ h → r g ≠ r h
  val : ∀ g j, g < n → j < m → w.cell? ⟨r g, j, none⟩ = some (f g j) ∧ w.frozen? ⟨r g, j, none⟩ = false
theorem Mat.below {w w' : World} {lo hi gb cap : Nat} {r rc : Nat → Nat} {n m : Nat} {f : Nat → Nat → Value} (h : Mat w lo hi gb cap r rc n m f) (b : Below w.heap.size w w') : Mat w' lo hi gb cap r rc n m f :=
  ⟨h.cap, h.low, Nat.le_trans h.high b.size, fun g hg => (b.cell (p := ⟨gb, g, none⟩) (Nat.lt_of_lt_of_le h.low.2 h.high)).trans (h.cell g hg), h.rcap, h.row, h.diff,
    fun g j hg hj => ⟨(b.cell (p := ⟨r g, j, none⟩) (Nat.lt_of_lt_of_le (h.row g hg).2.1 h.high)).trans (h.val g j hg hj).1, (b.frozen (p := ⟨r g, j, none⟩) (Nat.lt_of_lt_of_le (h.row g hg).2.1 h.high)).trans (h.val g j hg hj).2⟩⟩
theorem Mat.wide {w : World} {lo hi lo' hi' gb cap : Nat} {r rc : Nat → Nat} {n m : Nat} {f : Nat → Nat → Value} (h : Mat w lo hi gb cap r rc n m f) (h1 : lo' ≤ lo) (h2 : hi ≤ hi') (h3 : hi' ≤ w.heap.size) : Mat w lo' hi' gb cap r rc n m f :=
  ⟨h.cap, ⟨by have := h.low; omega, by have := h.low; omega⟩, h3, h.cell, h.rcap, fun g hg => by have := h.row g hg; exact ⟨by omega, by omega, this.2.2⟩, h.diff, h.val⟩
theorem Mat.other {w : World} {lo hi gb cap : Nat} {r rc : Nat → Nat} {n m : Nat} {f : Nat → Nat → Value} (h : Mat w lo hi gb cap r rc n m f) (p : Addr) (u : Value) (h1 : p.block ≠ gb) (h2 : ∀ g, g < n → p.block ≠ r g) : Mat (w.setCell p u) lo hi gb cap r rc n m f :=
  ⟨h.cap, h.low, by simpa [World.setCell] using h.high, fun g hg => by rw [World.cell?_setCell_other _ _ _ _ (by intro e; subst e; exact h1 rfl)]; exact h.cell g hg, h.rcap, h.row, h.diff,
    fun g j hg hj => ⟨by rw [World.cell?_setCell_other _ _ _ _ (by intro e; subst e; exact h2 g hg rfl)]; exact (h.val g j hg hj).1, (World.frozen?_setCell _ _ _ _).trans (h.val g j hg hj).2⟩⟩
theorem Mat.put {w : World} {lo hi gb cap : Nat} {r rc : Nat → Nat} {n m : Nat} {f : Nat → Nat → Value} (h : Mat w lo hi gb cap r rc n m f) {g j : Nat} (hg : g < n) (hj : j < m) (u : Value) :
    Mat (w.setCell ⟨r g, j, none⟩ u) lo hi gb cap r rc n m (fun a b => if a = g ∧ b = j then u else f a b) := by
  refine ⟨h.cap, h.low, by simpa [World.setCell] using h.high, fun a ha => ?_, h.rcap, h.row, h.diff, fun a b ha hb => ⟨?_, (World.frozen?_setCell _ _ _ _).trans (h.val a b ha hb).2⟩⟩
  · rw [World.cell?_setCell_other _ _ _ _ (by intro e; simp only [Addr.mk.injEq] at e; exact (h.row g hg).2.2 e.1)]
    exact h.cell a ha
  · by_cases e : a = g ∧ b = j
    · obtain ⟨rfl, rfl⟩ := e
      rw [if_pos ⟨rfl, rfl⟩]
      exact World.cell?_setCell_same' _ _ _ (by rw [(h.val a b ha hb).1]; rfl)
    · rw [if_neg e, World.cell?_setCell_other _ _ _ _ ?_]
      · exact (h.val a b ha hb).1
      · intro e2
        simp only [Addr.mk.injEq, and_true] at e2
        by_cases hag : a = g
        · subst hag; exact e ⟨rfl, e2.2.symm⟩
        · exact h.diff g a hg ha (fun e => hag e.symm) e2.1
theorem Mat.congr {w : World} {lo hi gb cap : Nat} {r rc : Nat → Nat} {n m : Nat} {f f' : Nat → Nat → Value} (h : Mat w lo hi gb cap r rc n m f) (he : ∀ g j, g < n → j < m → f g j = f' g j) : Mat w lo hi gb cap r rc n m f' :=
  ⟨h.cap, h.low, h.high, h.cell, h.rcap, h.row, h.diff, fun g j hg hj => ⟨by rw [← he g j hg hj]; exact (h.val g j hg hj).1, (h.val g j hg hj).2⟩⟩
theorem Mat.nil {w : World} {lo hi gb cap m : Nat} (f : Nat → Nat → Value) (h1 : lo ≤ gb ∧ gb < hi) (h2 : hi ≤ w.heap.size) : Mat w lo hi gb cap id id 0 m f :=
  ⟨Nat.zero_le _, h1, h2, fun g hg => absurd hg (Nat.not_lt_zero _), fun g hg => absurd hg (Nat.not_lt_zero _), fun g hg => absurd hg (Nat.not_lt_zero _), fun g _ hg => absurd hg (Nat.not_lt_zero _), fun g _ hg => absurd hg (Nat.not_lt_zero _)⟩
end Go.Proofs.Ytmhkkdnopcdibaa
