/-
  Packed: ResCell, TyFlat, TyOpen, TypePair, TyPair, Lists.
-/
import Derived.Laws.ResultCell
import Derived.Deep.RegionHeld3
import Derived.Test.YtcbpgbiannpfpaaDoorQ1
set_option linter.unusedVariables false
namespace Go.Proofs.YtcbpgbiannpfpaaDoor
open Go.RowKit

theorem results_cell {fn : Func} {p : Tmp} {ty : TypeId} (h : fn.results = #[.cell p ty]) (tmps : Array Value) (P : Program) (w : World) :
    (results fn tmps).run P w = ((asAddr (tmps.getD p undef)).run P w).andThen fun a w₁ => (loadVar ty a).run P w₁ := by
  simp only [results, h]
  simp [Sem.run_bind, Result.andThen]
theorem post_named {Q : Exit → Act → World → Prop} {x : Exit} {a : Act} {w : World} (h : ∀ w', Hid (w' = w) → Q x a w') : Q x a w := h w rfl
def ResAt (w : World) (B k : Nat) : Prop := ∃ cs, cs.length = k ∧ BoxF w B cs
theorem ResAt.made (u : World) (cs : Array Value) (t : TypeId) : ResAt (u.alloc (.cells cs t)) u.heap.size cs.size := ⟨cs.toList, by simp, BoxF.made (Below.refl _ _) rfl⟩
theorem ResAt.made' {u : World} {cs : Array Value} {t : TypeId} {B k : Nat} (hB : u.heap.size = B) (hk : cs.size = k) : ResAt (u.alloc (.cells cs t)) B k := by subst hB hk; exact ResAt.made _ _ _
theorem ResAt.below {w w' : World} {B k : Nat} (h : ResAt w B k) (hb : Below w.heap.size w w') : ResAt w' B k := by
  obtain ⟨cs, hl, hc⟩ := h
  exact ⟨cs, hl, hc.below hb⟩
theorem ResAt.lt {w : World} {B k : Nat} (h : ResAt w B k) : B < w.heap.size := by
  obtain ⟨cs, _, hc⟩ := h
  exact hc.1
theorem ResAt.at {w : World} {B k : Nat} (h : ResAt w B k) (j : Nat) (hj : j < k) : (∃ v, w.cell? ⟨B, j, none⟩ = some v) ∧ w.frozen? ⟨B, j, none⟩ = false := by
  obtain ⟨cs, hl, hc⟩ := h
  have := hc.2 j _ (List.getElem?_eq_getElem (by omega : j < cs.length))
  exact ⟨⟨_, this.1⟩, this.2⟩
def putCs (w : World) (B : Nat) : Nat → List Value → World
  | _, [] => w
  | o, v :: vs => putCs (w.setCell ⟨B, o, none⟩ v) B (o + 1) vs
theorem BoxF.putCs {B : Nat} : ∀ (vs : List Value) (o : Nat) (w : World) (cs : List Value), BoxF w B cs → o + vs.length ≤ cs.length → BoxF (Go.Proofs.YtcbpgbiannpfpaaDoor.putCs w B o vs) B (setsFrom cs o vs)
  | [], _, _, _, h, _ => h
  | v :: vs, o, w, cs, h, hl => by
    simp only [List.length_cons] at hl
    exact BoxF.putCs vs (o + 1) _ _ (h.set o v (by omega)) (by simp; omega)
theorem setsFrom_all {cs vs : List Value} (h : cs.length = vs.length) : setsFrom cs 0 vs = vs := by
  refine List.ext_getElem? fun j => ?_
  by_cases hj : j < vs.length
  · have h1 := setsFrom_in vs cs 0 j vs[j] (by omega) (List.getElem?_eq_getElem hj)
    rw [Nat.zero_add] at h1
    rw [h1, List.getElem?_eq_getElem hj]
  · rw [List.getElem?_eq_none (by rw [setsFrom_len]; omega), List.getElem?_eq_none (by omega)]
theorem ResAt.put {w : World} {B k : Nat} (h : ResAt w B k) {vs : List Value} (hk : vs.length = k) : BoxF (putCs w B 0 vs) B vs := by
  obtain ⟨cs, hl, hc⟩ := h
  have := BoxF.putCs vs 0 w cs hc (by omega)
  rwa [setsFrom_all (by omega)] at this
theorem Touch.putCs {lo hi B : Nat} (h1 : lo ≤ B) (h2 : B < hi) : ∀ (vs : List Value) (o : Nat) (a w : World), Touch lo hi a w → Touch lo hi a (Go.Proofs.YtcbpgbiannpfpaaDoor.putCs w B o vs)
  | [], _, _, _, h => h
  | v :: vs, o, a, w, h => Touch.putCs h1 h2 vs (o + 1) a _ (h.setCell ⟨B, o, none⟩ v h1 h2)
theorem Below.putCs {C B : Nat} (h1 : C ≤ B) : ∀ (vs : List Value) (o : Nat) (a w : World), Below C a w → Below C a (Go.Proofs.YtcbpgbiannpfpaaDoor.putCs w B o vs)
  | [], _, _, _, h => h
  | v :: vs, o, a, w, h => Below.putCs h1 vs (o + 1) a _ (h.setCell (p := ⟨B, o, none⟩) h1 v)
theorem BoxF.of_put {w : World} {B : Nat} {cs : List Value} (h : BoxF w B cs) : ResAt w B cs.length := ⟨cs, rfl, h⟩
end Go.Proofs.YtcbpgbiannpfpaaDoor
set_option linter.unusedVariables false
namespace Go.Proofs.YtcbpgbiannpfpaaDoor
open Go.RowKit

structure FlatT (e : Ty) (c : e.D → List Value) : Prop where
  rd : ∀ {w B cs x}, e.Rd w B cs x ↔ cs = c x
  ow : ∀ {w lo cs x bs}, e.Ow w lo cs x bs ↔ cs = c x ∧ bs = []
  len : ∀ x, (c x).length = e.n
  pos : 0 < e.n
  mks : ∀ x, e.mks x = e.n
theorem flat_int : FlatT tInt fun z => [.int .i64 z] := ⟨Iff.rfl, Iff.rfl, fun _ => rfl, Nat.one_pos, fun _ => rfl⟩
theorem flat_bool : FlatT tBool fun z => [.bool z] := ⟨Iff.rfl, Iff.rfl, fun _ => rfl, Nat.one_pos, fun _ => rfl⟩
theorem flat_str : FlatT tStr fun z => [.string z] := ⟨Iff.rfl, Iff.rfl, fun _ => rfl, Nat.one_pos, fun _ => rfl⟩
theorem flat_two {a b : Ty} {ca : a.D → List Value} {cb : b.D → List Value} (ha : FlatT a ca) (hb : FlatT b cb) : FlatT (tTwo a b) fun d => ca d.1 ++ cb d.2 where
  rd := by
    intro w B cs x
    constructor
    · rintro ⟨c1, c2, rfl, h1, h2⟩
      rw [ha.rd.1 h1, hb.rd.1 h2]
    · intro h
      exact ⟨_, _, h, ha.rd.2 rfl, hb.rd.2 rfl⟩
  ow := by
    intro w lo cs x bs
    constructor
    · rintro ⟨c1, c2, b1, b2, rfl, rfl, h1, h2⟩
      rw [(ha.ow.1 h1).1, (ha.ow.1 h1).2, (hb.ow.1 h2).1, (hb.ow.1 h2).2]
      exact ⟨rfl, rfl⟩
    · rintro ⟨h, h0⟩
      exact ⟨_, _, [], [], h, h0, ha.ow.2 ⟨rfl, rfl⟩, hb.ow.2 ⟨rfl, rfl⟩⟩
  len x := by rw [List.length_append, ha.len, hb.len]; rfl
  pos := Nat.add_pos_left ha.pos _
  mks x := by show a.mks x.1 + b.mks x.2 = a.n + b.n; rw [ha.mks, hb.mks]
def cellsAt {α : Type} (c : α → List Value) (d : List α) (i : Nat) : List Value := ((d[i]?).map c).getD []
theorem cellsAt_lt {α : Type} {c : α → List Value} {d : List α} {i : Nat} {x : α} (h : d[i]? = some x) : cellsAt c d i = c x := by unfold cellsAt; rw [h]; rfl
section
variable {e : Ty} {c : e.D → List Value} {t : TypeId} {w : World} {lo hi : Nat} {v : Value} {d : List e.D}
theorem FlatT.row (hf : FlatT e c) {B : Nat → Prop} (h : (tSl t e).Rd w B [v] d) : RecRow e.n w v d.length (cellsAt c d) := by
  obtain ⟨v', ce, he, h1, _, h3⟩ := h
  simp only [List.cons.injEq, and_true] at he
  subst he
  refine h1.congr fun i hi => ?_
  obtain ⟨x, hx⟩ : ∃ x, d[i]? = some x := ⟨_, List.getElem?_eq_getElem hi⟩
  rw [cellsAt_lt hx]
  exact hf.rd.1 (h3 i x hx)
theorem FlatT.inB (hf : FlatT e c) {B : Nat → Prop} (h : (tSl t e).Rd w B [v] d) : 0 < d.length → ∀ q, v.ownBlock = some q → B q := by
  obtain ⟨v', ce, he, _, h2, _⟩ := h
  simp only [List.cons.injEq, and_true] at he
  subst he
  exact h2
theorem FlatT.reads (hf : FlatT e c) {B : Nat → Prop} (h : RecRow e.n w v d.length (cellsAt c d)) (hB : 0 < d.length → ∀ q, v.ownBlock = some q → B q) : (tSl t e).Rd w B [v] d :=
  ⟨v, _, rfl, h, hB, fun i x hx => hf.rd.2 (cellsAt_lt hx)⟩
theorem FlatT.rdA (hf : FlatT e c) : RdA (tSl t e) w [v] d ↔ RecRow e.n w v d.length (cellsAt c d) := by
  refine ⟨fun h => hf.row h, fun h => hf.reads h fun h0 q hq => ?_⟩
  rcases h with ⟨_, _, _, h1⟩ | ⟨b, off, cap, rfl, _, _, hc, _⟩
  · omega
  · have : b = q := by simpa [Value.ownBlock] using hq
    subst this
    exact (hc 0 h0).1
theorem FlatT.own (hf : FlatT e c) {xs : List Value} (h : w.ownsRow lo t e.n v d.length xs) (hc : RecCells e.n d.length xs (cellsAt c d)) (h1 : ∀ q, v.ownBlock = some q → q < hi) (hh : hi ≤ w.heap.size) : OwN (tSl t e) w lo hi [v] d := by
  refine OwN.flat h (fun i x hx => hf.ow.2 ⟨?_, rfl⟩) h1 hh
  have hi2 := (List.getElem?_eq_some_iff.1 hx).1
  have hl := block_len h.1 hi2
  refine List.ext_getElem? fun j => ?_
  by_cases hj : j < e.n
  · obtain ⟨u, hu⟩ : ∃ u, (c x)[j]? = some u := ⟨_, List.getElem?_eq_getElem (by rw [hf.len]; exact hj)⟩
    have := hc i hi2 j u (by rw [cellsAt_lt hx]; exact hu)
    rw [List.getElem?_take_of_lt hj, List.getElem?_drop, this, hu]
  · rw [List.getElem?_eq_none (by omega), List.getElem?_eq_none (by rw [hf.len]; omega)]
theorem FlatT.owned (hf : FlatT e c) (h : OwN (tSl t e) w lo hi [v] d) : (∃ xs, w.ownsRow lo t e.n v d.length xs ∧ RecCells e.n d.length xs (cellsAt c d)) ∧ InW lo hi v := by
  obtain ⟨bs, ⟨v', xs, f, he, h1, h2, rfl⟩, _, h4, _⟩ := h
  simp only [List.cons.injEq, and_true] at he
  subst he
  refine ⟨⟨xs, h1, fun i hi j u hu => ?_⟩, fun k hk => ⟨(h1.lt k hk).1, h4 k (List.mem_append_left _ (by rw [hk]; simp))⟩⟩
  obtain ⟨x, hx⟩ : ∃ x, d[i]? = some x := ⟨_, List.getElem?_eq_getElem hi⟩
  rw [cellsAt_lt hx] at hu
  have h5 := (hf.ow.1 (h2 i x hx)).1
  have hj : j < e.n := by have := (List.getElem?_eq_some_iff.1 hu).1; rw [hf.len] at this; exact this
  rw [← h5, List.getElem?_take_of_lt hj, List.getElem?_drop] at hu
  exact hu
theorem cells_of {k : Nat} {w : World} {base : Nat} {t : TypeId} {v : Value} {n : Nat} {xs : List Value} {g : Nat → List Value} (h : w.ownsRow base t k v n xs) (hr : RecRow k w v n g) (hg : ∀ i, i < n → (g i).length ≤ k) : RecCells k n xs g := by
  intro i hi j u hu
  have hj : j < k := by have := (List.getElem?_eq_some_iff.1 hu).1; have := hg i hi; omega
  have hlt : i * k + j < n * k := by have := Nat.mul_le_mul_right k (show i + 1 ≤ n by omega); rw [Nat.succ_mul] at this; omega
  rcases hr with ⟨_, _, _, h0⟩ | ⟨b, off, cap, rfl, _, _, hc, _⟩
  · omega
  · obtain ⟨g', gc, hg'⟩ : ∃ g gc, (Value.slice (some ⟨b, off, none⟩) n cap) = .slice (some ⟨g, 0, none⟩) n gc := by
      rcases h.2 with ⟨_, h0⟩ | ⟨g, cap', cur, hv, _⟩
      · omega
      · exact ⟨g, cap', hv⟩
    simp only [Value.slice.injEq, Option.some.injEq, Addr.mk.injEq, and_true, true_and] at hg'
    obtain ⟨⟨rfl, rfl⟩, rfl⟩ := hg'
    have h5 := h.cellAt (i * k + j) hlt
    have h6 := (hc i hi).2 j u hu
    rw [Nat.zero_add] at h6
    rw [h6] at h5
    exact h5.symm
theorem FlatT.made {e : Ty} {c : e.D → List Value} {t : TypeId} {w : World} {lo hi : Nat} {v : Value} {d : List e.D} (hf : FlatT e c) {xs : List Value} (h : w.ownsRow lo t e.n v d.length xs) (hr : RdA (tSl t e) w [v] d) (h1 : ∀ q, v.ownBlock = some q → q < hi) (hh : hi ≤ w.heap.size) : OwN (tSl t e) w lo hi [v] d :=
  hf.own h (cells_of h (hf.row hr) fun i hi => by rw [cellsAt_lt (List.getElem?_eq_getElem hi), hf.len]; exact Nat.le_refl _) h1 hh
theorem mkList_get {α : Type} {mks : α → Nat} {mkd : Int → α → α} {m : Nat} (hm : ∀ x, mks x = m) : ∀ (L : List α) (k : Int) (i : Nat), (mkList mks mkd k L)[i]? = (L[i]?).map (mkd (k + m * (i : Int)))
  | [], _, _ => rfl
  | x :: r, k, 0 => by unfold mkList; simp
  | x :: r, k, i + 1 => by
    unfold mkList
    rw [List.getElem?_cons_succ, List.getElem?_cons_succ, mkList_get hm r, hm]
    congr 2
    rw [Int.natCast_succ, Int.mul_add]
    omega
theorem sum_const {α : Type} {f : α → Nat} {m : Nat} (hm : ∀ x, f x = m) : ∀ L : List α, (L.map f).sum = m * L.length
  | [] => rfl
  | x :: r => by rw [List.map_cons, List.sum_cons, sum_const hm r, hm, List.length_cons, Nat.mul_succ, Nat.add_comm]
theorem sum_zero {α : Type} {f : α → Nat} (hm : ∀ x, f x = 0) (L : List α) : (L.map f).sum = 0 := by rw [sum_const hm, Nat.zero_mul]
theorem FlatT.marks (hf : FlatT e c) : (tSl t e).mks d = e.n * d.length := sum_const hf.mks d
theorem FlatT.marked (hf : FlatT e c) (k : Int) (i : Nat) {x : e.D} (hx : d[i]? = some x) : cellsAt c ((tSl t e).mkd k d) i = c (e.mkd (k + e.n * (i : Int)) x) := by
  refine cellsAt_lt ?_
  show (mkList e.mks e.mkd k d)[i]? = _
  rw [mkList_get hf.mks, hx]
  rfl
theorem marked_len (k : Int) : ((tSl t e).mkd k d).length = d.length := mkList_len _ _ _ _
end
def SzT (T : Ty) (d : T.D) (left : Int) (w : World) (e : Ending) (w' : World) : Prop := (∃ r : Int, e = .returned (.int .i64 r) ∧ (r < 0 ∨ (0 ≤ r ∧ (T.wt d : Int) + r = left))) ∧ Below w.heap.size w w'
def MadeT (T : Ty) (d : T.D) (w : World) (e : Ending) (w' : World) : Prop := ∃ v, e = .returned v ∧ OwN T w' w.heap.size w'.heap.size [v] d ∧ Below w.heap.size w w'
def MarkT (T : Ty) (cs : List Value) (d : T.D) (k : Int) (lo hi : Nat) (w : World) (e : Ending) (w' : World) : Prop := e = .returned (.int .i64 (k + T.mks d)) ∧ RdN T w' lo hi cs (T.mkd k d) ∧ Touch lo hi w w'
def HeldT (T : Ty) (d : T.D) (k : Int) (w : World) (e : Ending) (w' : World) : Prop := e = .returned (.int .i64 (k + T.mks d)) ∧ Below w.heap.size w w'
theorem rd_split {a b : Ty} {w : World} {cs : List Value} {d : (tTwo a b).D} (h : RdA (tTwo a b) w cs d) : RdA a w (cs.take a.n) d.1 ∧ RdA b w (cs.drop a.n) d.2 := by
  obtain ⟨c1, c2, rfl, h1, h2⟩ := h
  have hl := a.rd_len h1
  rw [← hl, List.take_left', List.drop_left']
  · exact ⟨h1, h2⟩
  · rfl
  · rfl
theorem rd_splitB {a b : Ty} {w : World} {B : Nat → Prop} {cs : List Value} {d : (tTwo a b).D} (h : (tTwo a b).Rd w B cs d) : a.Rd w B (cs.take a.n) d.1 ∧ b.Rd w B (cs.drop a.n) d.2 := by
  obtain ⟨c1, c2, rfl, h1, h2⟩ := h
  have hl := a.rd_len h1
  rw [← hl, List.take_left', List.drop_left']
  · exact ⟨h1, h2⟩
  · rfl
  · rfl
theorem ow_split {a b : Ty} {w : World} {lo : Nat} {cs : List Value} {d : (tTwo a b).D} {bs : List Nat} (h : (tTwo a b).Ow w lo cs d bs) : ∃ b1 b2, bs = b1 ++ b2 ∧ a.Ow w lo (cs.take a.n) d.1 b1 ∧ b.Ow w lo (cs.drop a.n) d.2 b2 := by
  obtain ⟨c1, c2, b1, b2, rfl, rfl, h1, h2⟩ := h
  have hl := a.rd_len (a.ow_rd h1)
  refine ⟨b1, b2, rfl, ?_⟩
  rw [← hl, List.take_left', List.drop_left']
  · exact ⟨h1, h2⟩
  · rfl
  · rfl
structure KeepB (bs : List Nat) (w w' : World) : Prop where
  os : w'.os = w.os
  tape : w'.tape = w.tape
  output : w'.output = w.output
  size : w.heap.size ≤ w'.heap.size
  block : ∀ k, k < w.heap.size → k ∉ bs → w'.heap[k]? = w.heap[k]?
theorem KeepB.of_below {bs : List Nat} {w w' : World} (h : Below w.heap.size w w') : KeepB bs w w' := ⟨h.os, h.tape, h.output, h.size, fun k hk _ => h.block k hk⟩
theorem KeepB.trans {b1 b2 : List Nat} {a b c : World} (h : KeepB b1 a b) (k : KeepB b2 b c) : KeepB (b1 ++ b2) a c :=
  ⟨k.os.trans h.os, k.tape.trans h.tape, k.output.trans h.output, Nat.le_trans h.size k.size, fun q hq hn => by
    rw [List.mem_append] at hn
    exact (k.block q (Nat.lt_of_lt_of_le hq h.size) (fun e => hn (.inr e))).trans (h.block q hq (fun e => hn (.inl e)))⟩
theorem KeepB.mono {b1 b2 : List Nat} {a b : World} (h : KeepB b1 a b) (hb : ∀ q, q ∈ b1 → q ∈ b2) : KeepB b2 a b := ⟨h.os, h.tape, h.output, h.size, fun q hq hn => h.block q hq (fun e => hn (hb q e))⟩
theorem KeepB.touch {bs : List Nat} {lo hi : Nat} {w w' : World} (h : KeepB bs w w') (hb : ∀ q ∈ bs, lo ≤ q ∧ q < hi) : Touch lo hi w w' :=
  ⟨h.os, h.tape, h.output, h.size, fun k hk hq => h.block k hk (fun e => by have := hb k e; omega)⟩
theorem KeepB.of_touch {g : Nat} {w w' : World} (h : Touch g (g + 1) w w') : KeepB [g] w w' := ⟨h.os, h.tape, h.output, h.size, fun k hk hn => h.block k hk (by simp at hn; omega)⟩
theorem KeepB.refl (bs : List Nat) (w : World) : KeepB bs w w := ⟨rfl, rfl, rfl, Nat.le_refl _, fun _ _ _ => rfl⟩
def MarkB (T : Ty) (cs : List Value) (d : T.D) (k : Int) (bs : List Nat) (w : World) (e : Ending) (w' : World) : Prop := e = .returned (.int .i64 (k + T.mks d)) ∧ T.Rd w' (fun q => q ∈ bs) cs (T.mkd k d) ∧ KeepB bs w w'
theorem MarkB.markT {T : Ty} {cs : List Value} {d : T.D} {k : Int} {bs : List Nat} {lo hi : Nat} {w w' : World} {e : Ending} (h : MarkB T cs d k bs w e w') (hb : ∀ q ∈ bs, lo ≤ q ∧ q < hi) : MarkT T cs d k lo hi w e w' :=
  ⟨h.1, T.rd_mono h.2.1 hb, h.2.2.touch hb⟩
theorem mark_window {T : Ty} {cs : List Value} {d : T.D} {k : Int} {lo hi : Nat} {w : World} {P : Program} {f : FuncId} {args : Array Value} (h : OwN T w lo hi cs d)
    (hc : ∀ bs, T.Ow w lo cs d bs → bs.Nodup → Calls P f args w (MarkB T cs d k bs w)) : Calls P f args w (MarkT T cs d k lo hi w) := by
  obtain ⟨bs, h1, h2, h3, _⟩ := h
  exact (hc bs h1 h2).mono fun e w' hm => hm.markT fun q hq => ⟨(T.ow_lt h1 q hq).1, h3 q hq⟩
theorem flat_blocks {e : Ty} {c : e.D → List Value} {t : TypeId} {w : World} {lo : Nat} {v : Value} {d : List e.D} {bs : List Nat} (hf : FlatT e c) (h : (tSl t e).Ow w lo [v] d bs) : bs = v.ownBlock.toList := by
  obtain ⟨v', xs, f, he, h1, h2, rfl⟩ := h
  simp only [List.cons.injEq, and_true] at he
  subst he
  have : (List.range d.length).flatMap f = [] := by
    rw [List.flatMap_eq_nil_iff]
    intro i hi
    exact (hf.ow.1 (h2 i _ (List.getElem?_eq_getElem (List.mem_range.1 hi)))).2
  rw [this, List.append_nil]
theorem flat_mark {e : Ty} {c : e.D → List Value} {t : TypeId} {w : World} {lo : Nat} {v : Value} {d : List e.D} {k : Int} {bs : List Nat} {P : Program} {f : FuncId} {args : Array Value} (hf : FlatT e c) (h : (tSl t e).Ow w lo [v] d bs)
    (hc : ∀ lo hi, OwN (tSl t e) w lo hi [v] d → Calls P f args w (MarkT (tSl t e) [v] d k lo hi w)) : Calls P f args w (MarkB (tSl t e) [v] d k bs w) := by
  have hbs := flat_blocks hf h
  have hlt := (tSl t e).ow_lt h
  cases hv : v.ownBlock with
  | none =>
    rw [hv] at hbs
    subst hbs
    refine (hc lo 0 ⟨_, h, List.nodup_nil, fun q hq => (by cases hq), Nat.zero_le _⟩).mono fun E w' ⟨h1, h2, h3⟩ => ⟨h1, (tSl t e).rd_mono h2 fun q hq => absurd hq.2 (Nat.not_lt_zero _), ⟨h3.os, h3.tape, h3.output, h3.size, fun q hq _ => h3.block q hq (.inr (Nat.zero_le _))⟩⟩
  | some g =>
    rw [hv] at hbs
    subst hbs
    have hg := hlt g (by simp)
    obtain ⟨v', xs, f', he, h1, h2, h3⟩ := h
    simp only [List.cons.injEq, and_true] at he
    subst he
    have h1' : w.ownsRow g t e.n v d.length xs := by
      refine ⟨h1.1, ?_⟩
      rcases h1.2 with h0 | ⟨g', cap, cur, rfl, _, h5⟩
      · exact .inl h0
      · have : g' = g := by simpa [Value.ownBlock] using hv
        subst this
        exact .inr ⟨_, cap, cur, rfl, Nat.le_refl _, h5⟩
    have hown : OwN (tSl t e) w g (g + 1) [v] d := OwN.flat h1' (fun i x hx => hf.ow.2 ⟨(hf.ow.1 (h2 i x hx)).1, rfl⟩) (fun q hq => by rw [hv] at hq; cases hq; exact Nat.lt_succ_self _) hg.2
    refine (hc g (g + 1) hown).mono fun E w' ⟨a1, a2, a3⟩ => ⟨a1, (tSl t e).rd_mono a2 fun q hq => ?_, KeepB.of_touch a3⟩
    have : q = g := by omega
    rw [this]; simp
def MarkC (T : Ty) (cs : List Value) (d2 : T.D) (n : Nat) (k : Int) (bs : List Nat) (w : World) (e : Ending) (w' : World) : Prop := e = .returned (.int .i64 (k + n)) ∧ T.Rd w' (fun q => q ∈ bs) cs d2 ∧ KeepB bs w w'
theorem mark_windowC {T : Ty} {cs : List Value} {d d2 : T.D} {n : Nat} {k : Int} {lo hi : Nat} {w : World} {P : Program} {f : FuncId} {args : Array Value} (h : OwN T w lo hi cs d)
    (hc : ∀ bs, T.Ow w lo cs d bs → bs.Nodup → Calls P f args w (MarkC T cs d2 n k bs w)) : Calls P f args w fun e w' => e = .returned (.int .i64 (k + n)) ∧ RdN T w' lo hi cs d2 ∧ Touch lo hi w w' := by
  obtain ⟨bs, h1, h2, h3, _⟩ := h
  have hb : ∀ q ∈ bs, lo ≤ q ∧ q < hi := fun q hq => ⟨(T.ow_lt h1 q hq).1, h3 q hq⟩
  exact (hc bs h1 h2).mono fun e w' hm => ⟨hm.1, T.rd_mono hm.2.1 hb, hm.2.2.touch hb⟩
theorem rd_slice {t : TypeId} {e : Ty} {w : World} {B : Nat → Prop} {v : Value} {d : List e.D} (h : (tSl t e).Rd w B [v] d) : ∃ a n k, v = .slice a n k := by
  obtain ⟨v', ce, he, h1, _⟩ := h
  simp only [List.cons.injEq, and_true] at he
  subst he
  obtain ⟨a, c, h2, _⟩ := h1.form
  exact ⟨a, _, c, h2⟩
theorem scalar_int {w : World} {B : Nat → Prop} {z d : Int} (h : tInt.Rd w B [.int .i64 z] d) : d = z := by
  have h1 : [Value.int .i64 z] = [.int .i64 d] := h
  simp only [List.cons.injEq, Value.int.injEq, true_and, and_true] at h1
  exact h1.symm
theorem scalar_bool {w : World} {B : Nat → Prop} {z d : Bool} (h : tBool.Rd w B [.bool z] d) : d = z := by
  have h1 : [Value.bool z] = [.bool d] := h
  simp only [List.cons.injEq, Value.bool.injEq, and_true] at h1
  exact h1.symm
theorem scalar_str {w : World} {B : Nat → Prop} {z d : ByteArray} (h : tStr.Rd w B [.string z] d) : d = z := by
  have h1 : [Value.string z] = [.string d] := h
  simp only [List.cons.injEq, Value.string.injEq, and_true] at h1
  exact h1.symm
theorem ResAt.elsewhere {w : World} {B D k : Nat} (h : ResAt w B k) (j : Nat) (u : Value) (hD : B ≠ D) : ResAt (w.setCell ⟨D, j, none⟩ u) B k := by
  obtain ⟨cs, h1, h2⟩ := h
  exact ⟨cs, h1, h2.other j u hD⟩
theorem KeepB.box {bs : List Nat} {w w' : World} {B : Nat} {cs : List Value} (h : BoxN w B cs) (k : KeepB bs w w') (hB : B ∉ bs) : BoxN w' B cs :=
  ⟨Nat.lt_of_lt_of_le h.1 k.size, fun j v hj => (World.cell?_of_block (w := w) (w' := w') (a := ⟨B, j, none⟩) (k.block B h.1 hB)).trans (h.2 j v hj)⟩
theorem KeepB.rd {T : Ty} {bs b2 : List Nat} {w w' : World} {cs : List Value} {d : T.D} (h : T.Rd w (fun q => q ∈ b2) cs d) (k : KeepB bs w w') (hd : ∀ q, q ∈ b2 → q ∉ bs) : T.Rd w' (fun q => q ∈ b2) cs d :=
  T.rd_frame h (fun q hq hl => k.block q hl (hd q hq)) k.size
theorem KeepB.ow {T : Ty} {bs b2 : List Nat} {w w' : World} {lo : Nat} {cs : List Value} {d : T.D} (h : T.Ow w lo cs d b2) (k : KeepB bs w w') (hd : ∀ q, q ∈ b2 → q ∉ bs) : T.Ow w' lo cs d b2 :=
  T.ow_frame h (fun q hq => k.block q (T.ow_lt h q hq).2 (hd q hq)) k.size
theorem scal_int {w w' : World} {lo : Nat} {bs : List Nat} {B : Nat → Prop} {cs : List Value} {d : Int} (h : tInt.Ow w lo cs d bs) : tInt.Rd w' B cs d := h.1
theorem scal_bool {w w' : World} {lo : Nat} {bs : List Nat} {B : Nat → Prop} {cs : List Value} {d : Bool} (h : tBool.Ow w lo cs d bs) : tBool.Rd w' B cs d := h.1
theorem scal_str {w w' : World} {lo : Nat} {bs : List Nat} {B : Nat → Prop} {cs : List Value} {d : ByteArray} (h : tStr.Ow w lo cs d bs) : tStr.Rd w' B cs d := h.1
theorem ret_int {x y : Int} (h : x = y) : Ending.returned (Value.int .i64 x) = .returned (.int .i64 y) := by rw [h]
end Go.Proofs.YtcbpgbiannpfpaaDoor
set_option linter.unusedVariables false
namespace Go.Proofs.YtcbpgbiannpfpaaDoor
open Go.RowKit Go.ChangeShapes Go.WideShapes Go.Joins Go.Deep

def Opens (P : Program) (t : TypeId) (T : Ty) : Prop :=
  P.cellsOf t = T.n ∧ 0 < T.n ∧ ∀ {H : Type} (enc : TypeId × Value → H) (w : World) (base : Nat) (held : Bool) (fuel : Nat) (cs : List Value) (x : DataW H × List MemPlace),
    DataW.trod enc P w base (fun _ => true) held fuel t cs = some x → ∃ d, RdA T w cs d ∧ T.fit d
theorem opens_int {P : Program} {t : TypeId} (h : P.underlying t = some (.int .i64)) (hc : P.cellsOf t = 1) : Opens P t tInt := ⟨hc, Nat.one_pos, fun enc w base held fuel cs x hx => by
  obtain ⟨z, e, _, hw⟩ := DataW.trod_int h hx
  exact ⟨z, e, intFit_of hw⟩⟩
theorem opens_bool {P : Program} {t : TypeId} (h : P.underlying t = some .bool) (hc : P.cellsOf t = 1) : Opens P t tBool := ⟨hc, Nat.one_pos, fun enc w base held fuel cs x hx => by
  obtain ⟨z, e, _⟩ := DataW.trod_bool h hx
  exact ⟨z, e, trivial⟩⟩
theorem opens_str {P : Program} {t : TypeId} (h : P.underlying t = some .string) (hc : P.cellsOf t = 1) : Opens P t tStr := ⟨hc, Nat.one_pos, fun enc w base held fuel cs x hx => by
  obtain ⟨z, e, _, hz⟩ := DataW.trod_string h hx
  exact ⟨z, e, hz⟩⟩
theorem choose_all {α : Type} {n : Nat} {p : Nat → α → Prop} (h : ∀ i, i < n → ∃ x, p i x) : ∃ L : List α, L.length = n ∧ ∀ i x, L[i]? = some x → p i x := by
  induction n with
  | zero => exact ⟨[], rfl, fun i x hx => by simp at hx⟩
  | succ n ih =>
    obtain ⟨L, h1, h2⟩ := ih fun i hi => h i (by omega)
    obtain ⟨y, hy⟩ := h n (by omega)
    refine ⟨L ++ [y], by simp [h1], fun i x hx => ?_⟩
    by_cases hi : i < L.length
    · rw [List.getElem?_append_left hi] at hx
      exact h2 i x hx
    · rw [List.getElem?_append_right (by omega)] at hx
      have : i - L.length = 0 := by have := (List.getElem?_eq_some_iff.1 hx).1; simp at this; omega
      rw [this] at hx
      simp at hx
      subst hx
      have : i = n := by omega
      rw [this]; exact hy
theorem opens_sl {P : Program} {t te : TypeId} {e : Ty} (h : P.underlying t = some (.slice te)) (hc : P.cellsOf t = 1) (he : Opens P te e) {tt : TypeId} : Opens P t (tSl tt e) := ⟨hc, Nat.one_pos, fun enc w base held fuel cs x hx => by
  obtain ⟨ce, hn0, he⟩ := he
  rcases Go.Deep.open_slice h hx with ⟨rfl, _⟩ | ⟨a, len, cap, m, q, Dx, Pl, rfl, hb, hl, hm, hmm, _, hel⟩
  · exact ⟨[], ⟨_, fun _ => [], rfl, .inl ⟨_, _, rfl, rfl⟩, fun h => absurd h (by simp), fun i x hx => by simp at hx⟩, fun x hx => by cases hx⟩
  have hlm : len ≤ m := by rw [hmm]; split <;> omega
  have each : ∀ i, i < len → ∃ x : List Value × e.D, (∀ j u, x.1[j]? = some u → w.cell? ((a.add (i * e.n)).add j) = some u) ∧ x.1.length = e.n ∧ RdA e w x.1 x.2 ∧ e.fit x.2 := by
    intro i hi
    obtain ⟨cs', h1, h2⟩ := hel i (by omega)
    rw [ce] at h1
    obtain ⟨_, hlen, hcell⟩ := World.cells?_some h1
    obtain ⟨d, hd, hf⟩ := he enc w base held q cs' _ h2
    exact ⟨(cs', d), fun j u hu => (hcell j (by have := (List.getElem?_eq_some_iff.1 hu).1; simpa [hlen] using this)).trans hu, hlen, hd, hf⟩
  obtain ⟨L, hL, hp⟩ := choose_all each
  have hlenD : (L.map Prod.snd).length = len := by rw [List.length_map, hL]
  refine ⟨L.map Prod.snd, ?_, fun y hy => ?_⟩
  · unfold maxLen at hm
    refine ⟨.slice (some a) len cap, fun i => ((L[i]?).map Prod.fst).getD [], rfl, ?_, ?_, fun i y hy => ?_⟩
    · rw [hlenD]
      by_cases h0 : len = 0
      · subst h0; exact .inl ⟨_, _, rfl, rfl⟩
      · obtain ⟨y0, hy0⟩ : ∃ y, L[0]? = some y := ⟨_, List.getElem?_eq_getElem (by omega)⟩
        obtain ⟨u0, hu0⟩ : ∃ u, y0.1[0]? = some u := ⟨_, List.getElem?_eq_getElem (by have := (hp 0 y0 hy0).2.1; omega)⟩
        have hc0 := (hp 0 y0 hy0).1 0 u0 hu0
        obtain ⟨b, off, spot⟩ := a
        have hspot : spot = none := by simpa [Addr.add] using World.cell?_spot hc0
        subst hspot
        refine .inr ⟨b, off, cap, rfl, by omega, by omega, fun i hi => ?_, hl⟩
        obtain ⟨y, hy⟩ : ∃ y, L[i]? = some y := ⟨_, List.getElem?_eq_getElem (by omega)⟩
        have hadd : ∀ o j : Nat, (⟨b, o, none⟩ : Addr).add j = ⟨b, o + j, none⟩ := fun o j => by unfold Addr.add; split <;> simp_all
        have hyc := (hp i y hy).1
        simp only [hy, Option.map_some, Option.getD_some]
        refine ⟨?_, fun j u hu => ?_⟩
        · obtain ⟨u, hu⟩ : ∃ u, y.1[0]? = some u := ⟨_, List.getElem?_eq_getElem (by have := (hp i y hy).2.1; omega)⟩
          have := hyc 0 u hu
          rw [hadd, hadd] at this
          exact World.block_lt_of_cell? w _ this
        · have := hyc j u hu
          rw [hadd, hadd] at this
          exact this
    · intro h0 z hz
      have hz2 : a.block = z := by simpa [Value.ownBlock] using hz
      subst hz2
      obtain ⟨y0, hy0⟩ : ∃ y, L[0]? = some y := ⟨_, List.getElem?_eq_getElem (by omega)⟩
      obtain ⟨u0, hu0⟩ : ∃ u, y0.1[0]? = some u := ⟨_, List.getElem?_eq_getElem (by have := (hp 0 y0 hy0).2.1; omega)⟩
      have := World.block_lt_of_cell? w _ ((hp 0 y0 hy0).1 0 u0 hu0)
      simpa [Addr.add] using this
    · rw [List.getElem?_map] at hy
      obtain ⟨z, hz, rfl⟩ := Option.map_eq_some_iff.1 hy
      simp only [hz, Option.map_some, Option.getD_some]
      exact (hp i z hz).2.2.1
  · obtain ⟨z, hz, rfl⟩ := List.mem_map.1 hy
    obtain ⟨i, hi⟩ := List.mem_iff_getElem?.1 hz
    exact (hp i z hi).2.2.2⟩
def Flds (P : Program) : List Field → Nat → Ty → Prop
  | [], _, _ => False
  | [f], o, T => f.offset = o ∧ Opens P f.type T
  | f :: g :: r, o, T => f.offset = o ∧ ∃ a b, T = tTwo a b ∧ Opens P f.type a ∧ Flds P (g :: r) (o + a.n) b
theorem flds_open {P : Program} {H : Type} (enc : TypeId × Value → H) (w : World) (base : Nat) (held : Bool) (n : Nat) (cs : List Value) (xs : List (DataW H × List MemPlace)) :
    ∀ (fs : List Field) (o k : Nat) (T : Ty), Flds P fs o T → (∀ i f, fs[i]? = some f → DataW.trod enc P w base (fun _ => true) held n f.type ((cs.drop f.offset).take (P.cellsOf f.type)) = xs[k + i]?) → k + fs.length = xs.length →
      0 < T.n ∧ ∃ d, RdA T w ((cs.drop o).take T.n) d ∧ T.fit d
  | [], _, _, _, h, _, _ => False.elim h
  | [f], o, k, T, h, hf, hl => by
    obtain ⟨h1, h2, h3, h4⟩ := h
    have h5 := hf 0 f rfl
    rw [h1, h2, Nat.add_zero] at h5
    obtain ⟨x, hx⟩ : ∃ x, xs[k]? = some x := ⟨_, List.getElem?_eq_getElem (by simp at hl; omega)⟩
    rw [hx] at h5
    exact ⟨h3, h4 enc w base held n _ _ h5⟩
  | f :: g :: r, o, k, T, h, hf, hl => by
    obtain ⟨h1, a, b, rfl, ⟨h2, h3, h4⟩, h5⟩ := h
    have h6 := hf 0 f rfl
    rw [h1, h2, Nat.add_zero] at h6
    obtain ⟨x, hx⟩ : ∃ x, xs[k]? = some x := ⟨_, List.getElem?_eq_getElem (by simp at hl; omega)⟩
    rw [hx] at h6
    obtain ⟨d1, r1, f1⟩ := h4 enc w base held n _ _ h6
    obtain ⟨hn, d2, r2, f2⟩ := flds_open enc w base held n cs xs (g :: r) (o + a.n) (k + 1) b h5 (fun i f' hf' => by have := hf (i + 1) f' (by simpa using hf'); rw [this]; congr 1; omega) (by simp at hl ⊢; omega)
    refine ⟨Nat.add_pos_left h3 _, (d1, d2), ?_, f1, f2⟩
    have e : (cs.drop o).take (a.n + b.n) = (cs.drop o).take a.n ++ (cs.drop (o + a.n)).take b.n := by rw [List.take_add, List.drop_drop]
    show RdA (tTwo a b) w ((cs.drop o).take (a.n + b.n)) (d1, d2)
    rw [e]
    exact r1.two r2
theorem opens_struct {P : Program} {t : TypeId} {fs : Array Field} {T : Ty} (h : P.underlying t = some (.struct fs)) (hc : P.cellsOf t = T.n) (hf : Flds P fs.toList 0 T) : Opens P t T := by
  have hpos : ∀ (fs : List Field) (o : Nat) (T : Ty), Flds P fs o T → 0 < T.n := by
    intro fs
    induction fs with
    | nil => intro o T h; exact False.elim h
    | cons f r ih =>
      intro o T h
      cases r with
      | nil => exact h.2.2.1
      | cons g r => obtain ⟨_, a, b, rfl, h2, _⟩ := h; exact Nat.add_pos_left h2.2.1 _
  refine ⟨hc, hpos _ _ _ hf, fun enc w base held fuel cs x hx => ?_⟩
  obtain ⟨xs, n, _, _, hcl, hxl, hg⟩ := DataW.trod_struct h hx
  obtain ⟨_, d, h1, h2⟩ := flds_open enc w base held n cs xs fs.toList 0 0 T hf (fun i f hi => by rw [hg i f (by simpa using hi)]; congr 1; omega) (by simp [hxl])
  rw [List.drop_zero, List.take_of_length_le (by rw [hcl, hc]; exact Nat.le_refl _)] at h1
  exact ⟨d, h1, h2⟩
theorem open_arg {P : Program} {t : TypeId} {T : Ty} {H : Type} {enc : TypeId × Value → H} {w : World} {base : Nat} {held : Bool} {r : Reach} {b0 : Nat} {fs : Array Field} {v : Value} {d : DataW H} {p : List MemPlace} (ho : Opens P t T) (hs : P.underlying t = some (.struct fs)) (hv : Value.okWide P w r b0 t v)
    (h : DataW.Trod enc P w base (fun _ => true) held t v d p) : ∃ cs : Array Value, v = .agg cs ∧ ∃ d, RdA T w cs.toList d ∧ T.fit d := by
  obtain ⟨cs, rfl, _⟩ := okWide_struct hs hv
  obtain ⟨fuel, hf⟩ := h
  obtain ⟨d, h1, h2⟩ := ho.2.2 enc w base held fuel _ _ hf
  exact ⟨cs, rfl, d, by simpa [Value.cells] using h1, h2⟩
theorem open_arg1 {P : Program} {t te : TypeId} {T : Ty} {H : Type} {enc : TypeId × Value → H} {w : World} {base : Nat} {held : Bool} {r : Reach} {b0 : Nat} {v : Value} {d : DataW H} {p : List MemPlace} (ho : Opens P t T) (hs : P.underlying t = some (.slice te)) (hv : Value.okWide P w r b0 t v)
    (h : DataW.Trod enc P w base (fun _ => true) held t v d p) : ∃ d, RdA T w [v] d ∧ T.fit d := by
  obtain ⟨a, len, cap, rfl⟩ := okWide_slice hs hv
  obtain ⟨fuel, hf⟩ := h
  exact ho.2.2 enc w base held fuel _ _ (by simpa [Value.cells] using hf)
end Go.Proofs.YtcbpgbiannpfpaaDoor
set_option linter.unusedVariables false
namespace Go.Proofs.YtcbpgbiannpfpaaDoor
open Go.RowKit

structure PairD where
  home : Int
  away : Int
instance : Inhabited PairD := ⟨⟨0, 0⟩⟩
def PairD.cells (t : PairD) : List Value := [.int .i64 t.home, .int .i64 t.away]
def PairD.val (t : PairD) : Value := .agg #[.int .i64 t.home, .int .i64 t.away]
def PairD.fit (t : PairD) : Prop := IntFit t.home ∧ IntFit t.away
theorem PairD.len (t : PairD) : t.cells.length = 2 := rfl
def PairRow (w : World) (v : Value) (n : Nat) (g : Nat → PairD) : Prop := RecRow 2 w v n fun i => (g i).cells
theorem PairRow.below {w w' : World} {B : Nat} {v : Value} {n : Nat} {g : Nat → PairD} (h : PairRow w v n g) (hb : Below B w w') (hB : w.heap.size ≤ B) : PairRow w' v n g := RecRow.below h hb hB
theorem PairRow.touch {lo hi lo' hi' : Nat} {w w' : World} {v : Value} {n : Nat} {g : Nat → PairD} (h : PairRow w v n g) (t : Touch lo hi w w') (hv : 0 < n → InW lo' hi' v) (ho : hi' ≤ lo ∨ hi ≤ lo') : PairRow w' v n g := RecRow.touch h t hv ho
theorem PairRow.form {w : World} {v : Value} {n : Nat} {g : Nat → PairD} (h : PairRow w v n g) : ∃ a cap, v = .slice a n cap ∧ n ≤ 9223372036854775807 ∧ (0 < n → ∃ b off, a = some ⟨b, off, none⟩ ∧ n ≤ cap ∧ ∀ i, i < n → CellsAt w b (off + i * 2) (g i).cells) := RecRow.form h
theorem InW.pairRow {hi : Nat} {v : Value} {w : World} {n : Nat} {g : Nat → PairD} (h : PairRow w v n g) (h0 : 0 < n) (hs : w.heap.size ≤ hi) : InW 0 hi v := RecRow.inw h h0 hs
theorem PairRow.of_owns {w : World} {base : Nat} {e : TypeId} {v : Value} {n : Nat} {xs : List Value} {g : Nat → PairD} (h : w.ownsRow base e 2 v n xs) (hn : n ≤ 9223372036854775807) (hg : RecCells 2 n xs fun i => (g i).cells) : PairRow w v n g := RecRow.of_owns h hn hg fun _ _ => Nat.le_refl _
theorem Tryd.infoPair : (Tryd.prog.info? 98).map (fun i => (i.zero, i.size, i.bytes)) = some (some (.agg #[.int .i64 0, .int .i64 0]), 2, 16) := by kernel_rfl
theorem x_sz_PairS (v : Value) (n : Nat) (g : Nat → PairD) (left : Int) (w : World) (hl0 : 0 ≤ left) (hl : left ≤ 1048576) (h : PairRow w v n g) :
    Calls Tryd.prog 69 #[v, .int .i64 left] w (SzPost n left w) := by
  obtain ⟨a, cap, rfl, hn, _⟩ := h.form
  clear h
  by_cases hbig : left < n
  · have g0 : decide (left - (n : Int) < 0) = true := decide_eq_true (by omega)
    go_enter Tryd.func69, Tryd.ntmps69
    go_wp2
    go_ret
    exact ⟨⟨_, rfl, .inl (by decide)⟩, Below.refl _ _⟩
  · have g0 : decide (left - (n : Int) < 0) = false := decide_eq_false (by omega)
    go_enter Tryd.func69, Tryd.ntmps69
    go_wp2
    go_ret
    exact ⟨⟨_, rfl, .inr ⟨by omega, by omega⟩⟩, Below.refl _ _⟩
theorem x_to_Pair (home : Int) (away : Int) (w : World) : Calls Tryd.prog 85 #[.agg #[.int .i64 home, .int .i64 away]] w fun e w' => e = .returned (.agg #[.int .i64 home, .int .i64 away]) ∧ Below w.heap.size w w' := by
  go_enter Tryd.func85, Tryd.ntmps85
  go_wp2
  exact bodyPost_ret (v := .agg #[.int .i64 home, .int .i64 away]) (by simp [results, Tryd.results85, go_sem]) rfl ⟨rfl, (((Below.refl _ _).alloc (Nat.le_refl _) _).alloc (by simp) _).alloc (by simp; omega) _⟩
theorem x_eq_Pair (home : Int) (away : Int) (w : World) : Calls Tryd.prog 86 #[.agg #[.int .i64 home, .int .i64 away], .agg #[.int .i64 home, .int .i64 away]] w fun e w' => e = .returned (.bool true) ∧ Below w.heap.size w w' := by
  go_enter Tryd.func86, Tryd.ntmps86
  go_wp2
  go_ret
  exact ⟨rfl, ((Below.refl _ _).alloc (Nat.le_refl _) _).alloc (by simp) _⟩
set_option maxHeartbeats 1000000 in
theorem x_to_PairS (v : Value) (n : Nat) (g : Nat → PairD) (w : World) (h : PairRow w v n g) (hn : n ≤ 1048576) :
    Calls Tryd.prog 71 #[v] w (RecMade 2 98 w n fun i => (g i).cells) := by
  obtain ⟨i0, hi, hz0, hz1, hz2⟩ := info_parts Tryd.infoPair
  obtain ⟨a, cap, rfl, _, hv⟩ := h.form
  have HV := Lib.hid hv
  clear hv h
  go_enter Tryd.func71, Tryd.ntmps71
  go_wp2_with (at_make; refine wpList_make_full _ rfl _ _ 54 rfl w.heap.size 98 i0 (.agg #[.int .i64 0, .int .i64 0]) 2 Tryd.underlying54 hi hz0 hz1 .i64 .i64 n n n rfl rfl rfl rfl (by rw [hz2]; omega) (by unfold maxLen; omega) (Nat.le_refl _) ?_; intro w1 hown hg1)
  have hb1 : Below w.heap.size w w1 := (Below.refl _ _).grown hg1 (Nat.le_refl _) (fun k hk => by cases hk)
  clear hg1
  go_loopw [4] (fun i wr => ∃ (j : Nat) (ys : List Value), j ≤ n ∧ i = .int .i64 j ∧ wr.ownsRow w.heap.size 98 2 (.slice (some ⟨w.heap.size, 0, none⟩) n n) n ys ∧
      Hid (RecCells 2 j ys fun i => (g i).cells) ∧ Below w.heap.size w wr)
    (fun i _ => n - (RowKit.intOf i).toNat)
  case atStart => exact ⟨0, _, Nat.zero_le _, rfl, hown, RecCells.nil, hb1⟩
  case round =>
    obtain ⟨j, ys, hj, rfl, hown', hys, hb⟩ := hrel
    clear hown hb1
    by_cases hlt : j < n
    · obtain ⟨b, off, rfl, _, hc⟩ := HV.out (by omega)
      have hq := (hc j hlt).belowB hb (hc j hlt).1
      generalize hx : g j = x at *
      have c0 : wr.cell? ⟨b, off + j * 2, none⟩ = some (.int .i64 x.home) := hq.2 0 _ rfl
      have c1 : wr.cell? ⟨b, off + j * 2 + 1, none⟩ = some (.int .i64 x.away) := hq.2 1 _ rfl
      have Hx := Lib.hid hx
      have hlen := hown'.1
      have HL := Lib.hid hlen
      have hsz := hb.size
      clear hc HV hx hlen hq
      go_wp2_with (go_at_call 85; refine (x_to_Pair x.home x.away _).mono ?_; rintro e w2 ⟨rfl, b2⟩; have hown2 := owns_below hown' b2 (Nat.le_refl _); obtain ⟨u0, e0⟩ := owns_cellR hown2 (j * 2) (by omega); have f0 := hown2.frozenAt (j * 2); obtain ⟨u1, e1⟩ := owns_cellR hown2 (j * 2 + 1) (by omega); have f1 := hown2.frozenAt (j * 2 + 1))
      go_roundw
      case rel =>
        have hb2 := (hb.trans (b2.mono hsz))
        exact ⟨j + 1, _, by omega, by go_num, ((hown2.stored (j * 2) _).1.stored (j * 2 + 1) _).1, hys.out.sets (cs := x.cells) HL.out hlt (by show (g j).cells = _; rw [Hx.out]) rfl (fun _ _ => Nat.le_refl _), ((hb2.setCell (Nat.le_refl _) _).setCell (Nat.le_refl _) _)⟩
      case measure => simp [RowKit.intOf]; omega
    · obtain rfl : j = n := by omega
      go_wp2
      go_ret
      exact ⟨_, rfl, RecRow.of_owns hown' (by omega) hys.out (fun _ _ => Nat.le_refl _), ⟨_, hown'⟩, hb⟩
set_option maxHeartbeats 1000000 in
theorem x_eq_PairS (v : Value) (n : Nat) (g : Nat → PairD) (v' : Value) (w : World) (h : PairRow w v n g) (h' : PairRow w v' n g) :
    Calls Tryd.prog 73 #[v, v'] w fun e w' => e = .returned (.bool true) ∧ Below w.heap.size w w' := by
  obtain ⟨a, cap, rfl, hn, hv⟩ := h.form
  obtain ⟨a', cap', rfl, _, hv'⟩ := h'.form
  have HV := Lib.hid hv
  have HV' := Lib.hid hv'
  clear hv hv' h h'
  go_enter Tryd.func73, Tryd.ntmps73
  go_wp2
  go_loopw [5] (fun i wr => ∃ j : Nat, j ≤ n ∧ i = .int .i64 j ∧ Below w.heap.size w wr) (fun i _ => n - (RowKit.intOf i).toNat)
  case atStart => exact ⟨0, Nat.zero_le _, rfl, Below.refl _ _⟩
  case round =>
    obtain ⟨j, hj, rfl, hb⟩ := hrel
    by_cases hlt : j < n
    · obtain ⟨b, off, rfl, hcap, hc⟩ := HV.out (by omega)
      obtain ⟨b', off', rfl, hcap', hc'⟩ := HV'.out (by omega)
      have qa := (hc j hlt).belowB hb (hc j hlt).1
      have qb := (hc' j hlt).belowB hb (hc' j hlt).1
      clear hc hc' HV HV'
      generalize g j = x at *
      have hj0 : (0 : Int) ≤ (j : Int) := by omega
      have hj1 : (j : Int) < (n : Int) := by omega
      go_wp2
      obtain ⟨S, HSd⟩ : ∃ S : World → Prop, S = fun w' => CellsAt w' b (off + j * 2) x.cells ∧ CellsAt w' b' (off' + j * 2) x.cells ∧ Below w.heap.size w w' := ⟨_, rfl⟩
      have KS : Hid (∀ wa wb, S wa → Below wa.heap.size wa wb → S wb) := by subst HSd; exact fun wa wb ⟨qa, qb, hb⟩ b0 => ⟨qa.below b0, qb.below b0, hb.trans (b0.mono hb.size)⟩
      have OS : Hid (∀ wa, S wa → CellsAt wa b (off + j * 2) x.cells ∧ CellsAt wa b' (off' + j * 2) x.cells ∧ Below w.heap.size w wa) := by subst HSd; exact fun wa h => h
      have KS0 : Hid (S wr.drew) := by subst HSd; exact (fun (b0 : Below wr.heap.size wr wr.drew) => ⟨qa.below b0, qb.below b0, hb.trans (b0.mono hb.size)⟩) (Below.refl _ _).drew
      clear HSd
      go_wp2_with fail
      refine wp_region_held_drew (S := S) (by kernel_rfl) ?_ (fun hHeld => ?_)
      · exact KS0.out
      clear KS0 qa qb hb
      refine wpAnyH_take (i := 0) (v := ?_) rfl (by kernel_rfl) (by kernel_rfl) (by kernel_rfl) (fun _ _ _ h => h) (Or.inl ⟨by rfl, ?_⟩) (by assumption) ?_
      rotate_left
      · (intro wa hSw; obtain ⟨qa, qb, hb⟩ := OS.out _ hSw; have c0 : wa.cell? ⟨b, off + j * 2, none⟩ = some (.int .i64 x.home) := qa.2 0 _ rfl; have c1 : wa.cell? ⟨b, off + j * 2 + 1, none⟩ = some (.int .i64 x.away) := qa.2 1 _ rfl; have d0 : wa.cell? ⟨b', off' + j * 2, none⟩ = some (.int .i64 x.home) := qb.2 0 _ rfl; have d1 : wa.cell? ⟨b', off' + j * 2 + 1, none⟩ = some (.int .i64 x.away) := qb.2 1 _ rfl; go_simp; try with_reducible rfl)
      simp only [Act.put, List.getElem_toArray, List.getElem_cons_zero, List.setIfInBounds_toArray, List.set_cons_zero, List.set_cons_succ]
      refine wpAnyH_take (i := 1) (v := ?_) rfl (by kernel_rfl) (by kernel_rfl) (by kernel_rfl) (fun _ _ _ h => h) (Or.inl ⟨by rfl, ?_⟩) (by assumption) ?_
      rotate_left
      · (intro wa hSw; obtain ⟨qa, qb, hb⟩ := OS.out _ hSw; have c0 : wa.cell? ⟨b, off + j * 2, none⟩ = some (.int .i64 x.home) := qa.2 0 _ rfl; have c1 : wa.cell? ⟨b, off + j * 2 + 1, none⟩ = some (.int .i64 x.away) := qa.2 1 _ rfl; have d0 : wa.cell? ⟨b', off' + j * 2, none⟩ = some (.int .i64 x.home) := qb.2 0 _ rfl; have d1 : wa.cell? ⟨b', off' + j * 2 + 1, none⟩ = some (.int .i64 x.away) := qb.2 1 _ rfl; go_simp; try with_reducible rfl)
      simp only [Act.put, List.getElem_toArray, List.getElem_cons_zero, List.getElem_cons_succ, List.setIfInBounds_toArray, List.set_cons_zero, List.set_cons_succ]
      refine wpAnyH_take (i := 2) (v := ?_) rfl (by kernel_rfl) (by kernel_rfl) (by kernel_rfl) (fun _ _ _ h => h) (Or.inl ⟨by rfl, ?_⟩) (by assumption) ?_
      rotate_left
      · (intro wa hSw; obtain ⟨qa, qb, hb⟩ := OS.out _ hSw; have c0 : wa.cell? ⟨b, off + j * 2, none⟩ = some (.int .i64 x.home) := qa.2 0 _ rfl; have c1 : wa.cell? ⟨b, off + j * 2 + 1, none⟩ = some (.int .i64 x.away) := qa.2 1 _ rfl; have d0 : wa.cell? ⟨b', off' + j * 2, none⟩ = some (.int .i64 x.home) := qb.2 0 _ rfl; have d1 : wa.cell? ⟨b', off' + j * 2 + 1, none⟩ = some (.int .i64 x.away) := qb.2 1 _ rfl; go_simp; try with_reducible rfl)
      simp only [Act.put, List.getElem_toArray, List.getElem_cons_zero, List.getElem_cons_succ, List.setIfInBounds_toArray, List.set_cons_zero, List.set_cons_succ]
      refine wpAnyH_take (i := 3) (v := ?_) rfl (by kernel_rfl) (by kernel_rfl) (by kernel_rfl) (fun _ _ _ h => h) (Or.inl ⟨by rfl, ?_⟩) (by assumption) ?_
      rotate_left
      · (intro wa hSw; obtain ⟨qa, qb, hb⟩ := OS.out _ hSw; have c0 : wa.cell? ⟨b, off + j * 2, none⟩ = some (.int .i64 x.home) := qa.2 0 _ rfl; have c1 : wa.cell? ⟨b, off + j * 2 + 1, none⟩ = some (.int .i64 x.away) := qa.2 1 _ rfl; have d0 : wa.cell? ⟨b', off' + j * 2, none⟩ = some (.int .i64 x.home) := qb.2 0 _ rfl; have d1 : wa.cell? ⟨b', off' + j * 2 + 1, none⟩ = some (.int .i64 x.away) := qb.2 1 _ rfl; go_simp; try with_reducible rfl)
      simp only [Act.put, List.getElem_toArray, List.getElem_cons_zero, List.getElem_cons_succ, List.setIfInBounds_toArray, List.set_cons_zero, List.set_cons_succ]
      refine wpAnyH_take (i := 4) (v := ?_) rfl (by kernel_rfl) (by kernel_rfl) (by kernel_rfl) (fun _ _ _ h => h) (Or.inl ⟨by rfl, ?_⟩) (by assumption) ?_
      rotate_left
      · (intro wa hSw; obtain ⟨qa, qb, hb⟩ := OS.out _ hSw; have c0 : wa.cell? ⟨b, off + j * 2, none⟩ = some (.int .i64 x.home) := qa.2 0 _ rfl; have c1 : wa.cell? ⟨b, off + j * 2 + 1, none⟩ = some (.int .i64 x.away) := qa.2 1 _ rfl; have d0 : wa.cell? ⟨b', off' + j * 2, none⟩ = some (.int .i64 x.home) := qb.2 0 _ rfl; have d1 : wa.cell? ⟨b', off' + j * 2 + 1, none⟩ = some (.int .i64 x.away) := qb.2 1 _ rfl; go_simp; try with_reducible rfl)
      simp only [Act.put, List.getElem_toArray, List.getElem_cons_zero, List.getElem_cons_succ, List.setIfInBounds_toArray, List.set_cons_zero, List.set_cons_succ]
      refine wpAnyH_take (i := 5) (v := ?_) rfl (by kernel_rfl) (by kernel_rfl) (by kernel_rfl) (fun _ _ _ h => h) (Or.inl ⟨by rfl, ?_⟩) (by assumption) ?_
      rotate_left
      · (intro wa hSw; obtain ⟨qa, qb, hb⟩ := OS.out _ hSw; have c0 : wa.cell? ⟨b, off + j * 2, none⟩ = some (.int .i64 x.home) := qa.2 0 _ rfl; have c1 : wa.cell? ⟨b, off + j * 2 + 1, none⟩ = some (.int .i64 x.away) := qa.2 1 _ rfl; have d0 : wa.cell? ⟨b', off' + j * 2, none⟩ = some (.int .i64 x.home) := qb.2 0 _ rfl; have d1 : wa.cell? ⟨b', off' + j * 2 + 1, none⟩ = some (.int .i64 x.away) := qb.2 1 _ rfl; go_simp; try with_reducible rfl)
      simp only [Act.put, List.getElem_toArray, List.getElem_cons_zero, List.getElem_cons_succ, List.setIfInBounds_toArray, List.set_cons_zero, List.set_cons_succ]
      refine wpAnyH_take (i := 6) (v := ?_) rfl (by kernel_rfl) (by kernel_rfl) (by kernel_rfl) (fun _ _ _ h => h) (Or.inl ⟨by rfl, ?_⟩) (by assumption) ?_
      rotate_left
      · (intro wa hSw; obtain ⟨qa, qb, hb⟩ := OS.out _ hSw; have c0 : wa.cell? ⟨b, off + j * 2, none⟩ = some (.int .i64 x.home) := qa.2 0 _ rfl; have c1 : wa.cell? ⟨b, off + j * 2 + 1, none⟩ = some (.int .i64 x.away) := qa.2 1 _ rfl; have d0 : wa.cell? ⟨b', off' + j * 2, none⟩ = some (.int .i64 x.home) := qb.2 0 _ rfl; have d1 : wa.cell? ⟨b', off' + j * 2 + 1, none⟩ = some (.int .i64 x.away) := qb.2 1 _ rfl; go_simp; try with_reducible rfl)
      simp only [Act.put, List.getElem_toArray, List.getElem_cons_zero, List.getElem_cons_succ, List.setIfInBounds_toArray, List.set_cons_zero, List.set_cons_succ]
      refine wpAnyH_take (i := 7) (v := ?_) rfl (by kernel_rfl) (by kernel_rfl) (by kernel_rfl) (fun _ _ _ h => h) (Or.inl ⟨by rfl, ?_⟩) (by assumption) ?_
      rotate_left
      · (intro wa hSw; obtain ⟨qa, qb, hb⟩ := OS.out _ hSw; have c0 : wa.cell? ⟨b, off + j * 2, none⟩ = some (.int .i64 x.home) := qa.2 0 _ rfl; have c1 : wa.cell? ⟨b, off + j * 2 + 1, none⟩ = some (.int .i64 x.away) := qa.2 1 _ rfl; have d0 : wa.cell? ⟨b', off' + j * 2, none⟩ = some (.int .i64 x.home) := qb.2 0 _ rfl; have d1 : wa.cell? ⟨b', off' + j * 2 + 1, none⟩ = some (.int .i64 x.away) := qb.2 1 _ rfl; go_simp; try with_reducible rfl)
      simp only [Act.put, List.getElem_toArray, List.getElem_cons_zero, List.getElem_cons_succ, List.setIfInBounds_toArray, List.set_cons_zero, List.set_cons_succ]
      refine wpAnyH_ready (rs := [8]) (by kernel_rfl) (by simp) ?_
      refine AllReadyH.cons (o := _) rfl (fun K hK => ?_) AllReadyH.nil
      go_simp
      obtain ⟨qa, qb, hb⟩ := OS.out _ hHeld
      refine (x_eq_Pair x.home x.away _).mono ?_
      rintro e w101 ⟨rfl, b101⟩
      clear qa qb hb
      (try go_wp2_with fail)
      refine hK.out _ _ ?_ (fun hHeld101 => ?_)
      · exact KS.out _ _ hHeld b101
      clear hK K
      refine wpAnyH_take (i := 9) (v := ?_) rfl (by kernel_rfl) (by kernel_rfl) (by kernel_rfl) (fun _ _ _ h => h) (Or.inl ⟨by rfl, ?_⟩) (by assumption) ?_
      rotate_left
      · (intro wa hSw; obtain ⟨qa, qb, hb⟩ := OS.out _ hSw; have c0 : wa.cell? ⟨b, off + j * 2, none⟩ = some (.int .i64 x.home) := qa.2 0 _ rfl; have c1 : wa.cell? ⟨b, off + j * 2 + 1, none⟩ = some (.int .i64 x.away) := qa.2 1 _ rfl; have d0 : wa.cell? ⟨b', off' + j * 2, none⟩ = some (.int .i64 x.home) := qb.2 0 _ rfl; have d1 : wa.cell? ⟨b', off' + j * 2 + 1, none⟩ = some (.int .i64 x.away) := qb.2 1 _ rfl; go_simp; try with_reducible rfl)
      simp only [Act.put, List.getElem_toArray, List.getElem_cons_zero, List.getElem_cons_succ, List.setIfInBounds_toArray, List.set_cons_zero, List.set_cons_succ]
      refine wpAnyH_done (by kernel_rfl) ?_ _
      obtain ⟨qa, qb, hb⟩ := OS.out _ hHeld101
      clear KS OS hHeld hHeld101
      go_wp2
      go_roundw
      case rel => exact ⟨j + 1, by omega, by go_num, hb⟩
      case measure => simp [RowKit.intOf]; omega
    · go_wp2
      go_ret
      exact ⟨rfl, hb⟩
def pairMk (k : Int) (i : Nat) : PairD := ⟨k + 2 * (i : Int), k + 2 * (i : Int) + 1⟩
theorem tgrownPair {a b c : World} {row : Option Nat} (h : a.grownBy b row) (k : b.grownBy c row) : a.grownBy c row :=
  ⟨k.os.trans h.os, k.tape.trans h.tape, k.output.trans h.output, Nat.le_trans h.size k.size, fun i hi hne => (k.block i (Nat.lt_of_lt_of_le hi h.size) hne).trans (h.block i hi hne)⟩
set_option maxHeartbeats 1000000 in
theorem x_mk_PairS (v : Value) (n : Nat) (k : Int) (lo hi base : Nat) (xs : List Value) (w : World) (hown : w.ownsRow base 98 2 v n xs) (hin : InW lo hi v) (h0 : 0 < k) (hk : k + 2 * n ≤ 1000000000000) :
    Calls Tryd.prog 75 #[v, .int .i64 k] w fun e w' => e = .returned (.int .i64 (k + 2 * (n : Int))) ∧ PairRow w' v n (pairMk k) ∧ Touch lo hi w w' := by
  obtain ⟨a, cap, rfl, hv⟩ : ∃ a cap, v = .slice a n cap ∧ (0 < n → ∃ g, a = some ⟨g, 0, none⟩ ∧ base ≤ g) := by
    rcases hown.2 with ⟨rfl, rfl⟩ | ⟨g, cap, cur, rfl, hg, _⟩
    · exact ⟨_, _, rfl, fun h => absurd h (by omega)⟩
    · exact ⟨_, _, rfl, fun _ => ⟨g, rfl, hg⟩⟩
  have HV := Lib.hid hv
  have HI := Lib.hid hin
  clear hv hin
  go_enter Tryd.func75, Tryd.ntmps75
  go_wp2
  go_loopw [1, 5] (fun kv i wr => ∃ (j : Nat) (ys : List Value), j ≤ n ∧ i = .int .i64 j ∧ kv = .int .i64 (k + 2 * (j : Int)) ∧ wr.ownsRow base 98 2 (.slice a n cap) n ys ∧ Hid (RecCells 2 j ys fun i => (pairMk k i).cells) ∧ w.grownBy wr (Value.slice a n cap).ownBlock)
    (fun _ i _ => n - (RowKit.intOf i).toNat)
  case atStart => exact ⟨0, xs, Nat.zero_le _, rfl, by go_num, hown, RecCells.nil, ⟨rfl, rfl, rfl, Nat.le_refl _, fun _ _ _ => rfl⟩⟩
  case round =>
    obtain ⟨j, ys, hj, rfl, rfl, hown', hys, hgr⟩ := hrel
    clear hown
    by_cases hlt : j < n
    · obtain ⟨g, rfl, hg⟩ := HV.out (by omega)
      obtain ⟨u0, e0⟩ := owns_cellR hown' (j * 2) (by omega)
      have f0 := hown'.frozenAt (j * 2)
      obtain ⟨u1, e1⟩ := owns_cellR hown' (j * 2 + 1) (by omega)
      have f1 := hown'.frozenAt (j * 2 + 1)
      have HL := Lib.hid hown'.1
      clear HV
      go_wp2
      go_roundw
      case rel => exact ⟨j + 1, _, by omega, by go_num, by go_num, ((hown'.stored (j * 2) _).1.stored (j * 2 + 1) _).1, hys.out.sets (cs := [.int .i64 (k + 2 * (j : Int)), .int .i64 (k + 2 * (j : Int) + 1)]) HL.out hlt (by simp [pairMk, PairD.cells]) rfl (fun _ _ => Nat.le_refl _), tgrownPair (tgrownPair hgr (hown'.stored (j * 2) _).2) ((hown'.stored (j * 2) _).1.stored (j * 2 + 1) _).2⟩
      case measure => simp [RowKit.intOf]; omega
    · obtain rfl : j = n := by omega
      go_wp2
      go_ret
      exact ⟨rfl, RecRow.of_owns hown' (by omega) hys.out (fun _ _ => Nat.le_refl _), Touch.grown hgr HI.out⟩
section
open Go.ChangeShapes Go.WideShapes
variable {H : Type} {enc : TypeId × Value → H} {P : Program} {w : World} {base : Nat} {spare : Nat → Bool} {held : Bool}
theorem open_pairs {t e : TypeId} {f0 f1 : Field} {v : Value} (ht : P.underlying t = some (.slice e)) (he : P.underlying e = some (.struct #[f0, f1]))
    (ce : P.cellsOf e = 2) (o0 : f0.offset = 0) (c0 : P.cellsOf f0.type = 1) (u0 : P.underlying f0.type = some (.int .i64)) (o1 : f1.offset = 1) (c1 : P.cellsOf f1.type = 1) (u1 : P.underlying f1.type = some (.int .i64))
    (h : ∃ (fuel : Nat) (x : DataW H × List MemPlace), DataW.trod enc P w base spare held fuel t [v] = some x) : ∃ (n : Nat) (g : Nat → PairD), PairRow w v n g ∧ (∀ i, (g i).fit) ∧ n ≤ 9223372036854775807 := by
  obtain ⟨fuel, x, h⟩ := h
  have hz : (default : PairD).fit := by simp [PairD.fit, IntFit, default]
  rcases Go.Deep.open_slice ht h with ⟨h0, _⟩ | ⟨a, len, cap, m, q, D, Pl, h0, hb, hl, hm, hmm, rfl, hx⟩
  · simp only [List.cons.injEq, and_true] at h0
    subst h0
    exact ⟨0, fun _ => default, .inl ⟨_, _, rfl, rfl⟩, fun _ => hz, by omega⟩
  simp only [List.cons.injEq, and_true] at h0
  subst h0
  have hlm : len ≤ m := by rw [hmm]; split <;> omega
  have each : ∀ i, i < len → ∃ q : PairD, (∀ j u, q.cells[j]? = some u → w.cell? ((a.add (i * 2)).add j) = some u) ∧ q.fit := by
    intro i hi
    obtain ⟨cs', h1, h2⟩ := hx i (by omega)
    rw [ce] at h1
    obtain ⟨_, hlen, hcell⟩ := World.cells?_some h1
    obtain ⟨xs, kk, hk, hxy, _, hxl, hf⟩ := DataW.trod_struct he h2
    match xs, hxl, cs', hlen with
    | [y0, y1], _, [v0, v1], _ =>
      have g0 := hf 0 f0 rfl
      simp [o0, c0] at g0
      obtain ⟨z0, e0, _, k0⟩ := DataW.trod_int u0 g0
      simp only [List.cons.injEq, and_true] at e0
      subst e0
      have g1 := hf 1 f1 rfl
      simp [o1, c1] at g1
      obtain ⟨z1, e1, _, k1⟩ := DataW.trod_int u1 g1
      simp only [List.cons.injEq, and_true] at e1
      subst e1
      refine ⟨⟨z0, z1⟩, fun j u hu => ?_, ⟨intFit_of k0, intFit_of k1⟩⟩
      have hj : j < 2 := (List.getElem?_eq_some_iff.1 hu).1
      rw [hcell j hj]
      exact hu
  obtain ⟨g, hg⟩ := Go.Deep.choose_lt each
  have hfit : ∀ i, (if i < len then g i else default : PairD).fit := fun i => by
    by_cases hi : i < len
    · simpa [hi] using (hg i hi).2
    · simpa [hi] using hz
  unfold maxLen at hm
  refine ⟨len, fun i => if i < len then g i else default, ?_, hfit, by omega⟩
  by_cases h0 : len = 0
  · subst h0; exact .inl ⟨_, _, rfl, rfl⟩
  · have hc0 := (hg 0 (by omega)).1 0 _ rfl
    obtain ⟨b, off, spot⟩ := a
    have hspot : spot = none := by simpa [Addr.add] using World.cell?_spot hc0
    subst hspot
    have hadd : ∀ j, (⟨b, off, none⟩ : Addr).add j = ⟨b, off + j, none⟩ := fun j => by unfold Addr.add; split <;> simp_all
    have hadd2 : ∀ o j, (⟨b, o, none⟩ : Addr).add j = ⟨b, o + j, none⟩ := fun o j => by unfold Addr.add; split <;> simp_all
    simp only [hadd, hadd2] at hc0
    refine .inr ⟨b, off, cap, rfl, by omega, by omega, fun i hi => ⟨World.block_lt_of_cell? w _ hc0, fun j u hu => ?_⟩, hl⟩
    have := (hg i hi).1
    simp only [hadd, hadd2] at this
    simp only [hi, if_true] at hu
    exact this j u hu
end
section
open Go.ChangeShapes Go.WideShapes
variable {H : Type} {enc : TypeId × Value → H} {P : Program} {w : World} {base : Nat} {spare : Nat → Bool} {held : Bool}
theorem open_pair {r : Reach} {b0 : Nat} {e : TypeId} {f0 f1 : Field} {v : Value} {d : DataW H} {pl : List MemPlace} (he : P.underlying e = some (.struct #[f0, f1]))
    (ce : P.cellsOf e = 2) (o0 : f0.offset = 0) (c0 : P.cellsOf f0.type = 1) (u0 : P.underlying f0.type = some (.int .i64)) (o1 : f1.offset = 1) (c1 : P.cellsOf f1.type = 1) (u1 : P.underlying f1.type = some (.int .i64))
    (hv : Value.okWide P w r b0 e v) (h : DataW.Trod enc P w base spare held e v d pl) : ∃ q : PairD, v = q.val ∧ q.fit := by
  obtain ⟨cs, rfl, hsz⟩ := okWide_struct he hv
  obtain ⟨l⟩ := cs
  obtain ⟨fuel, h⟩ := h
  obtain ⟨xs, kk, hk, hxy, _, hxl, hf⟩ := DataW.trod_struct he h
  match xs, hxl, l, hsz.trans ce with
  | [y0, y1], _, [v0, v1], _ =>
      have g0 := hf 0 f0 rfl
      simp [Value.cells, o0, c0] at g0
      obtain ⟨z0, e0, _, k0⟩ := DataW.trod_int u0 g0
      simp only [List.cons.injEq, and_true] at e0
      subst e0
      have g1 := hf 1 f1 rfl
      simp [Value.cells, o1, c1] at g1
      obtain ⟨z1, e1, _, k1⟩ := DataW.trod_int u1 g1
      simp only [List.cons.injEq, and_true] at e1
      subst e1
      exact ⟨⟨z0, z1⟩, rfl, ⟨intFit_of k0, intFit_of k1⟩⟩
end
end Go.Proofs.YtcbpgbiannpfpaaDoor
set_option linter.unusedVariables false
namespace Go.Proofs.YtcbpgbiannpfpaaDoor
open Go.RowKit

def tPair : Ty := tTwo tInt tInt
def tPairS : Ty := tSl 98 tPair
theorem opens_Pair : Opens Tryd.prog 130 tPair := opens_struct Tryd.underlying130 (by kernel_rfl) ⟨rfl, _, _, rfl, (opens_int Tryd.underlying3 (by kernel_rfl)), ⟨rfl, (opens_int Tryd.underlying3 (by kernel_rfl))⟩⟩
theorem opens_PairS : Opens Tryd.prog 107 tPairS := opens_sl Tryd.underlying107 (by kernel_rfl) opens_Pair
def ofPair (x : tPair.D) : PairD := ⟨x.1, x.2⟩
def atPair (d : List tPair.D) (i : Nat) : PairD := ((d[i]?).map ofPair).getD default
theorem flat_Pair : FlatT tPair fun x => (ofPair x).cells := (flat_two flat_int flat_int)
theorem cells_Pair {d : List tPair.D} {i : Nat} (hi : i < d.length) : cellsAt (fun x => (ofPair x).cells) d i = (atPair d i).cells := by
  refine (cellsAt_lt (List.getElem?_eq_getElem hi)).trans ?_
  unfold atPair; rw [List.getElem?_eq_getElem hi]; rfl
theorem rd_PairS {w : World} {v : Value} {d : List tPair.D} : RdA tPairS w [v] d ↔ PairRow w v d.length (atPair d) := by
  have e := fun i (hi : i < d.length) => cells_Pair hi
  exact flat_Pair.rdA.trans ⟨fun h => RecRow.congr h e, fun h => RecRow.congr h fun i hi => (e i hi).symm⟩
theorem rdN_PairS {w : World} {lo hi : Nat} {v : Value} {d : List tPair.D} (h : PairRow w v d.length (atPair d)) (hi2 : InW lo hi v) : RdN tPairS w lo hi [v] d :=
  flat_Pair.reads (flat_Pair.row (rd_PairS.2 h)) fun _ q hq => hi2 q hq
theorem wt_PairS (d : List tPair.D) : tPairS.wt d = d.length := by
  show d.length + (d.map tPair.wt).sum = d.length
  have := sum_zero (f := tPair.wt) (fun _ => rfl) d
  omega
theorem mks_PairS (d : List tPair.D) : tPairS.mks d = 2 * d.length := sum_const (f := tPair.mks) (fun _ => rfl) d
theorem mkl_PairS (d : List tPair.D) (k : Int) : List.length (α := tPair.D) (tPairS.mkd k d) = d.length := mkList_len _ _ _ _
theorem mk_PairS (d : List tPair.D) (k : Int) (i : Nat) (hi : i < d.length) : atPair (tPairS.mkd k d) i = pairMk k i := by
  have h := mkList_get (mks := tPair.mks) (mkd := tPair.mkd) (m := 2) (fun _ => rfl) d k i
  have h2 : (mkList tPair.mks tPair.mkd k d)[i]? = some (tPair.mkd (k + ((2 : Nat) : Int) * i) d[i]) := by
    rw [h, List.getElem?_eq_getElem hi]; rfl
  unfold atPair
  refine (congrArg (fun o => (Option.map ofPair o).getD default) h2).trans ?_
  rfl
theorem own_PairS {w : World} {lo hi : Nat} {v : Value} {d : List tPair.D} {xs : List Value} (h : w.ownsRow lo 98 2 v d.length xs) (hr : PairRow w v d.length (atPair d)) (h1 : ∀ q, v.ownBlock = some q → q < hi) (hh : hi ≤ w.heap.size) : OwN tPairS w lo hi [v] d :=
  flat_Pair.made h (rd_PairS.2 hr) h1 hh
theorem y_sz_PairS (v : Value) (d : List tPair.D) (left : Int) (w : World) (hl0 : 0 ≤ left) (hl : left ≤ 1048576) (h : RdA tPairS w [v] d) : Calls Tryd.prog 69 #[v, .int .i64 left] w (SzT tPairS d left w) :=
  (x_sz_PairS v d.length (atPair d) left w hl0 hl (rd_PairS.1 h)).mono fun e w' ⟨⟨r, he, hr⟩, hb⟩ => ⟨⟨r, he, by rw [wt_PairS]; exact hr⟩, hb⟩
theorem y_to_PairS (v : Value) (d : List tPair.D) (w : World) (h : RdA tPairS w [v] d) (hw : tPairS.wt d ≤ 1048576) : Calls Tryd.prog 71 #[v] w (MadeT tPairS d w) :=
  (x_to_PairS v d.length (atPair d) w (rd_PairS.1 h) (by rw [wt_PairS] at hw; exact hw)).mono fun e w' ⟨v', he, hr, ⟨xs, ho⟩, hb⟩ => ⟨v', he, flat_Pair.made ho (rd_PairS.2 hr) (fun q hq => (ho.lt q hq).2) (Nat.le_refl _), hb⟩
theorem y_eq_PairS (v v' : Value) (d : List tPair.D) (w : World) (h : RdA tPairS w [v] d) (h' : RdA tPairS w [v'] d) : Calls Tryd.prog 73 #[v, v'] w fun e w' => e = .returned (.bool true) ∧ Below w.heap.size w w' :=
  x_eq_PairS v d.length (atPair d) v' w (rd_PairS.1 h) (rd_PairS.1 h')
theorem y_mk_PairS (v : Value) (d : List tPair.D) (k : Int) (lo hi : Nat) (w : World) (h : OwN tPairS w lo hi [v] d) (h0 : 0 < k) (hk : k + tPairS.mks d ≤ 1000000000000) : Calls Tryd.prog 75 #[v, .int .i64 k] w (MarkT tPairS [v] d k lo hi w) := by
  obtain ⟨⟨xs, ho, _⟩, hin⟩ := flat_Pair.owned h
  have hm := mks_PairS d
  have hm2 : k + 2 * (d.length : Int) ≤ 1000000000000 := by omega
  refine (x_mk_PairS v d.length k lo hi lo xs w ho hin h0 hm2).mono fun e w' ⟨he, hr, ht⟩ => ⟨by rw [he, hm]; congr 2 <;> omega, ?_, ht⟩
  refine rdN_PairS ?_ hin
  have h1 : RecRow 2 w' v d.length (fun i => (atPair (tPairS.mkd k d) i).cells) := RecRow.congr hr (fun i hi => by rw [mk_PairS d k i hi])
  rw [← mkl_PairS d k] at h1
  exact h1
theorem yb_mk_PairS (v : Value) (d : List tPair.D) (k : Int) (lo : Nat) (bs : List Nat) (w : World) (h : tPairS.Ow w lo [v] d bs) (hnd : bs.Nodup) (h0 : 0 < k) (hk : k + tPairS.mks d ≤ 1000000000000) : Calls Tryd.prog 75 #[v, .int .i64 k] w (MarkC tPairS [v] (tPairS.mkd k d) (tPairS.mks d) k bs w) :=
  flat_mark flat_Pair h fun lo hi ho => y_mk_PairS v d k lo hi w ho h0 hk
end Go.Proofs.YtcbpgbiannpfpaaDoor
set_option linter.unusedVariables false
namespace Go.Proofs.YtcbpgbiannpfpaaDoor
open Go.RowKit

def gapA {α : Type} (L : List α) (j : Nat) (u : α) : List α := L.take j ++ u :: L.drop j
section
variable {α β : Type} {L : List α} {j : Nat} {u x : α}
theorem gapA_len (h : j ≤ L.length) : (gapA L j u).length = L.length + 1 := by
  unfold gapA; simp; omega
theorem gapA_get {i : Nat} (h : i < j) (hj : j ≤ L.length) : (gapA L j u)[i]? = L[i]? := by
  unfold gapA
  rw [List.getElem?_append_left (by simp; omega), List.getElem?_take_of_lt h]
theorem gapA_set (hj : j ≤ L.length) : (gapA L j u).set j x = gapA L j x := by
  unfold gapA
  rw [List.set_append_right _ _ (by simp; omega)]
  simp [Nat.min_eq_left hj]
theorem gapA_step (h : L[j]? = some x) : gapA L (j + 1) x = gapA L j x := by
  have hj : j < L.length := (List.getElem?_eq_some_iff.1 h).1
  have hx : L[j] = x := (List.getElem?_eq_some_iff.1 h).2
  unfold gapA
  rw [(List.take_append_getElem hj).symm, List.drop_eq_getElem_cons hj, hx]
  simp only [List.append_assoc, List.cons_append, List.nil_append]
theorem gapA_end : gapA L L.length u = L ++ [u] := by
  unfold gapA; simp
theorem gapA_map (f : α → β) : (gapA L j u).map f = gapA (L.map f) j (f u) := by
  unfold gapA; simp
theorem gapA_mem {y : α} (h : y ∈ gapA L j u) : y = u ∨ y ∈ L := by
  unfold gapA at h
  rcases List.mem_append.1 h with h | h
  · exact .inr (List.mem_of_mem_take h)
  · rcases List.mem_cons.1 h with h | h
    · exact .inl h
    · exact .inr (List.mem_of_mem_drop h)
theorem gapA_pairwise {R : α → α → Prop} (hL : L.Pairwise R) (h1 : ∀ y ∈ L, R y u) (h2 : ∀ y ∈ L, R u y) : (gapA L j u).Pairwise R := by
  unfold gapA
  rw [List.pairwise_append, List.pairwise_cons]
  refine ⟨hL.sublist (List.take_sublist _ _), ⟨fun y hy => h2 y (List.mem_of_mem_drop hy), hL.sublist (List.drop_sublist _ _)⟩, fun a ha b hb => ?_⟩
  rcases List.mem_cons.1 hb with rfl | hb
  · exact h1 a (List.mem_of_mem_take ha)
  · have h3 : (L.take j ++ L.drop j).Pairwise R := by rw [List.take_append_drop]; exact hL
    exact (List.pairwise_append.1 h3).2.2 a ha b hb
end
def leadV {α : Type} (f : α → Int) (v : Int) : List α → Nat
  | [] => 0
  | y :: L => if v < f y then leadV f v L + 1 else 0
section
variable {α : Type} {f : α → Int} {v : Int}
theorem leadV_le (L : List α) : leadV f v L ≤ L.length := by
  induction L with
  | nil => exact Nat.le_refl _
  | cons y L ih => unfold leadV; split <;> simp <;> omega
theorem leadV_lt (L : List α) : ∀ i x, i < leadV f v L → L[i]? = some x → v < f x := by
  induction L with
  | nil => intro i x hi; exact absurd hi (by simp [leadV])
  | cons y L ih =>
    intro i x hi hx
    unfold leadV at hi
    split at hi
    · next h =>
      cases i with
      | zero => simp at hx; rw [← hx]; exact h
      | succ i => exact ih i x (by omega) (by simpa using hx)
    · omega
theorem leadV_ge (L : List α) : ∀ x, L[leadV f v L]? = some x → ¬ v < f x := by
  induction L with
  | nil => intro x h; simp at h
  | cons y L ih =>
    intro x h
    unfold leadV at h
    split at h
    · next hy => exact ih x (by simpa using h)
    · next hy => simp at h; rw [← h]; exact hy
end
def insP (v t : Int) : List (Int × List Int) → List (Int × List Int)
  | [] => [(v, [t])]
  | (u, p) :: r => if v < u then (u, p) :: insP v t r else if u = v then (u, p ++ [t]) :: r else (v, [t]) :: (u, p) :: r
theorem insP_new (v t : Int) : ∀ L : List (Int × List Int), (∀ x, L[leadV Prod.fst v L]? = some x → x.1 ≠ v) → insP v t L = gapA L (leadV Prod.fst v L) (v, [t])
  | [], _ => rfl
  | (u, p) :: r, h => by
    unfold insP leadV
    by_cases hu : v < u
    · rw [if_pos hu, if_pos hu, insP_new v t r (fun x hx => h x (by unfold leadV; rw [if_pos hu]; simpa using hx))]
      simp [gapA]
    · rw [if_neg hu, if_neg hu]
      have : u ≠ v := h (u, p) (by unfold leadV; rw [if_neg hu]; rfl)
      rw [if_neg this]
      simp [gapA]
theorem insP_old (v t : Int) : ∀ (L : List (Int × List Int)) (p : List Int), L[leadV Prod.fst v L]? = some (v, p) → insP v t L = L.set (leadV Prod.fst v L) (v, p ++ [t])
  | [], p, h => by simp at h
  | (u, q) :: r, p, h => by
    unfold insP
    unfold leadV at h ⊢
    by_cases hu : v < u
    · rw [if_pos hu] at h ⊢
      rw [if_pos hu, insP_old v t r p (by simpa using h)]
      simp
    · rw [if_neg hu] at h ⊢
      simp only [List.getElem?_cons_zero, Option.some.injEq, Prod.mk.injEq] at h
      obtain ⟨rfl, rfl⟩ := h
      rw [if_neg hu, if_pos rfl]
      simp
def splitP (V : Nat → Int) (gg : Nat → Int) : Nat → List (Int × List Int)
  | 0 => []
  | k + 1 => insP (V (gg k).toNat) (gg k) (splitP V gg k)
def ApartV (v v' : Value) : Prop := ∀ k, v.ownBlock = some k → v'.ownBlock ≠ some k
theorem ApartV.symm {v v' : Value} (h : ApartV v v') : ApartV v' v := fun k h1 h2 => h k h2 h1
def ApartL (l : List Value) : Prop := l.Pairwise ApartV
def OwnT (w : World) (base : Nat) (e : TypeId) (T : List (Int × Value × List Int)) : Prop := ∀ x ∈ T, w.ownsRow base e 1 x.2.1 x.2.2.length (x.2.2.map (Value.int .i64))
theorem OwnT.kept {w w' : World} {base : Nat} {e : TypeId} {T : List (Int × Value × List Int)} {row : Option Nat} (h : OwnT w base e T) (hg : w.grownBy w' row) (hne : ∀ x ∈ T, ∀ k, x.2.1.ownBlock = some k → row ≠ some k) : OwnT w' base e T := fun x hx =>
  (h x hx).kept hg (by
    cases hv : x.2.1.ownBlock with
    | none => exact .inl rfl
    | some k => exact .inr fun e => hne x hx k hv e.symm)
theorem OwnT.below {w w' : World} {base B : Nat} {e : TypeId} {T : List (Int × Value × List Int)} (h : OwnT w base e T) (hb : Below B w w') (hB : w.heap.size ≤ B) : OwnT w' base e T := fun x hx => owns_below (h x hx) hb hB
theorem OwnT.lt {w : World} {base : Nat} {e : TypeId} {T : List (Int × Value × List Int)} (h : OwnT w base e T) {x : Int × Value × List Int} (hx : x ∈ T) {k : Nat} (hk : x.2.1.ownBlock = some k) : base ≤ k ∧ k < w.heap.size := (h x hx).lt k hk
theorem OwnT.mono {w : World} {base base' : Nat} {e : TypeId} {T : List (Int × Value × List Int)} (h : OwnT w base e T) (hb : base' ≤ base) : OwnT w base' e T := fun x hx => owns_mono (h x hx) hb
end Go.Proofs.YtcbpgbiannpfpaaDoor
