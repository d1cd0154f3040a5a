/-
  Packed: SepReason, RsnImpl, SameRules, SameRsn, LaidKit.
-/
import Derived.Deep.RegionHeld3
import Derived.Deep.RegionWith
import Derived.WalkKit
import Derived.LaidLaws
import Derived.LaidSub
import Derived.Lib.LaidTab
import Derived.Test.YteciobkjfmddcaaGreatDoorQ3
import Derived.Test.YteciobkjfmddcaaGreatDoorQ7
import Derived.Test.YteciobkjfmddcaaGreatDoorQ9
import Derived.Test.YteciobkjfmddcaaGreatDoorQ13
import Derived.Test.YteciobkjfmddcaaGreatDoorQ17
set_option linter.unusedVariables false
namespace Go.Proofs.YteciobkjfmddcaaGreatDoor
open Go.RowKit
attribute [local go_sem] Oper.semAt_some

structure RfAt (w W : World) (fa : Option Addr) (fc : Nat) (la : Option Addr) (lc : Nat) (ga : Option Addr) (gc : Nat) (qa : Option Addr) (qc : Nat) (ta : Option Addr) (tc : Nat) (b : BookD) (x y : Int) : Prop where
  bk : BkAt w W w.heap.size fa fc la lc ga gc qa qc ta tc b
  xb : BoxN W (w.heap.size + 1) [.int .i64 x]
  yb : BoxN W (w.heap.size + 2) [.int .i64 y]
  rs : ResAt W (w.heap.size + 3) 4
  ok : ResAt W (w.heap.size + 4) 1
section
variable {w W W' : World} {fa : Option Addr} {fc : Nat} {la : Option Addr} {lc : Nat} {ga : Option Addr} {gc : Nat} {qa : Option Addr} {qc : Nat} {ta : Option Addr} {tc : Nat} {b : BookD} {x y : Int}
theorem RfAt.next (h : RfAt w W fa fc la lc ga gc qa qc ta tc b x y) (hb : Below W.heap.size W W') : RfAt w W' fa fc la lc ga gc qa qc ta tc b x y :=
  ⟨h.bk.next hb, BoxN.below h.xb hb, BoxN.below h.yb hb, h.rs.below hb, h.ok.below hb⟩
theorem RfAt.made (h : BookRow w (.slice fa b.nf fc) (.slice la b.nl lc) (.slice ga b.m gc) (.slice qa b.nfa qc) (.slice ta b.nta tc) b) : RfAt w (((((w.alloc (.cells #[.slice fa b.nf fc, .int .i64 b.win, .int .i64 b.draw, .int .i64 b.loss, .slice la b.nl lc, .bool b.again, .slice ga b.m gc, .slice qa b.nfa qc, .slice ta b.nta tc] 29)).alloc (.cells #[.int .i64 x] 3)).alloc (.cells #[.int .i64 y] 3)).alloc (.cells #[.int .i64 0, .slice none 0 0, .int .i64 0, .int .i64 0] 33)).alloc (.cells #[.bool false] 4)) fa fc la lc ga gc qa qc ta tc b x y :=
  ⟨(((((BkAt.made h 29).alloc _).alloc _).alloc _).alloc _),
   BoxN.made ((((Below.refl _ _).alloc (Nat.le_refl _) _).alloc (by simp) _).alloc (by simp) _) (by simp),
   BoxN.made (((Below.refl _ _).alloc (Nat.le_refl _) _).alloc (by simp) _) (by simp),
   (ResAt.made' (by simp) rfl).below ((Below.refl _ _).alloc (Nat.le_refl _) _),
   ResAt.made' (by simp) rfl⟩
theorem BoxF.puts {B C : Nat} {cs : List Value} (hC : B ≠ C) : ∀ (vs : List Value) (o : Nat) (w : World), BoxF w B cs → BoxF (Go.Proofs.YteciobkjfmddcaaGreatDoor.putCs w C o vs) B cs
  | [], _, _, h => h
  | v :: vs, o, w, h => BoxF.puts hC vs (o + 1) _ (h.other o v hC)
theorem ResAt.puts {B C k : Nat} (hC : B ≠ C) (vs : List Value) (o : Nat) (w : World) (h : ResAt w B k) : ResAt (Go.Proofs.YteciobkjfmddcaaGreatDoor.putCs w C o vs) B k := by
  obtain ⟨cs, hl, hc⟩ := h
  exact ⟨cs, hl, BoxF.puts hC vs o w hc⟩
abbrev putRs (w W : World) (vs : List Value) (r : Bool) : World := putCs (putCs W (w.heap.size + 3) 0 vs) (w.heap.size + 4) 0 [.bool r]
theorem RfAt.stored {vs : List Value} (hl : vs.length = 4) (h : RfAt w W fa fc la lc ga gc qa qc ta tc b x y) (r : Bool) :
    BoxF (putRs w W vs r) (w.heap.size + 3) vs ∧ BoxF (putRs w W vs r) (w.heap.size + 4) [.bool r] ∧ Below (w.heap.size + 3) W (putRs w W vs r) ∧ Below w.heap.size w (putRs w W vs r) := by
  have h1 : Below (w.heap.size + 3) W (putRs w W vs r) := Below.putCs (C := w.heap.size + 3) (B := w.heap.size + 4) (by omega) _ 0 _ _ (Below.putCs (C := w.heap.size + 3) (B := w.heap.size + 3) (by omega) vs 0 _ _ (Below.refl _ _))
  exact ⟨BoxF.puts (by omega) _ 0 _ (h.rs.put hl), (ResAt.puts (by omega) vs 0 _ h.ok).put rfl, h1, h.bk.bel.trans (h1.mono (by omega))⟩
theorem RfAt.putr (vs : List Value) (hl : vs.length = 4) (h : RfAt w W fa fc la lc ga gc qa qc ta tc b x y) : RfAt w (putCs W (w.heap.size + 3) 0 vs) fa fc la lc ga gc qa qc ta tc b x y :=
  ⟨BkAt.put (by omega) (by omega) vs 0 _ h.bk, jg_put (w := W) (by omega) vs 0 _ h.xb, jg_put (w := W) (by omega) vs 0 _ h.yb, ⟨vs, hl, h.rs.put hl⟩, ResAt.puts (by omega) vs 0 _ h.ok⟩
theorem RfAt.puto (vs : List Value) (hl : vs.length = 1) (h : RfAt w W fa fc la lc ga gc qa qc ta tc b x y) : RfAt w (putCs W (w.heap.size + 4) 0 vs) fa fc la lc ga gc qa qc ta tc b x y :=
  ⟨BkAt.put (by omega) (by omega) vs 0 _ h.bk, jg_put (w := W) (by omega) vs 0 _ h.xb, jg_put (w := W) (by omega) vs 0 _ h.yb, ResAt.puts (by omega) vs 0 _ h.rs, ⟨vs, hl, h.ok.put hl⟩⟩
end

set_option maxRecDepth 100000 in
set_option maxHeartbeats 2000000 in
theorem reasonFor_no (vf vl vg vfa vta : Value) (b : BookD) (x y : Int) (w : World) (hR : ¬ (bookP b ∧ (0 ≤ x ∧ x ≤ (b.nf : Int) - 1) ∧ (0 ≤ y ∧ y ≤ (b.nf : Int) - 1))) (h : BookRow w vf vl vg vfa vta b) (hs : ∀ i, (b.f i).nm.size ≤ maxLen) :
    Calls Tryz.prog 6 #[.agg #[vf, .int .i64 b.win, .int .i64 b.draw, .int .i64 b.loss, vl, .bool b.again, vg, vfa, vta], .int .i64 x, .int .i64 y] w (ReasonL w none) := by
  obtain ⟨fa, fc, la, lc, ga, gc, qa, qc, ta, tc, rfl, rfl, rfl, rfl, rfl⟩ := h.form
  obtain ⟨r1, hr1⟩ := boolEx (bookP b)
  have C1 := Lib.hid (fun wa h1 => bookOk_impl (.slice fa b.nf fc) (.slice la b.nl lc) (.slice ga b.m gc) (.slice qa b.nfa qc) (.slice ta b.nta tc) b r1 wa hr1 h1 hs)
  have C2 := Lib.hid (fun wa h1 => isTeamOf_impl (.slice fa b.nf fc) (.slice la b.nl lc) (.slice ga b.m gc) (.slice qa b.nfa qc) (.slice ta b.nta tc) b x wa h1)
  have C3 := Lib.hid (fun wa h1 => isTeamOf_impl (.slice fa b.nf fc) (.slice la b.nl lc) (.slice ga b.m gc) (.slice qa b.nfa qc) (.slice ta b.nta tc) b y wa h1)
  have A0 := Lib.hid (RfAt.made (x := x) (y := y) h)
  have hsix := h.sixty
  have HX : Hid (r1 = true → decide (0 ≤ x ∧ x < (b.nf : Int)) = true → decide (0 ≤ y ∧ y < (b.nf : Int)) = false) := fun e e2 => decide_eq_false fun h => hR ⟨hr1.1 e, by have := of_decide_eq_true e2; omega, by omega⟩
  clear hR hr1 h hs
  generalize decide (0 ≤ x ∧ x < (b.nf : Int)) = r2 at *
  generalize decide (0 ≤ y ∧ y < (b.nf : Int)) = r3 at *
  obtain ⟨U, hU⟩ : ∃ U, ((((w.alloc (.cells #[.slice fa b.nf fc, .int .i64 b.win, .int .i64 b.draw, .int .i64 b.loss, .slice la b.nl lc, .bool b.again, .slice ga b.m gc, .slice qa b.nfa qc, .slice ta b.nta tc] 29)).alloc (.cells #[.int .i64 x] 3)).alloc (.cells #[.int .i64 y] 3)).alloc (.cells #[.int .i64 0, .slice none 0 0, .int .i64 0, .int .i64 0] 33)).alloc (.cells #[.bool false] 4) = U := ⟨_, rfl⟩
  rw [hU] at A0
  obtain ⟨d0, d1, d2, d3, d4, d5, d6, d7, d8⟩ := A0.out.bk.cells
  have c1 := A0.out.xb.2 0 _ rfl
  have c2 := A0.out.yb.2 0 _ rfl
  go_enter Tryz.func6, Tryz.ntmps6
  go_wp2_with fail
  refine (C1.out _ A0.out.bk.row).mono ?_
  rintro e w1 ⟨rfl, b1⟩
  clear hU
  have A1 := Lib.hid (A0.out.next b1)
  clear d0 d1 d2 d3 d4 d5 d6 d7 d8 c1 c2 A0 b1
  cases r1 with
  | false =>
    obtain ⟨⟨x0, q0⟩, z0⟩ := A1.out.rs.at 0 (by omega)
    obtain ⟨⟨x1, q1⟩, z1⟩ := A1.out.rs.at 1 (by omega)
    obtain ⟨⟨x2, q2⟩, z2⟩ := A1.out.rs.at 2 (by omega)
    obtain ⟨⟨x3, q3⟩, z3⟩ := A1.out.rs.at 3 (by omega)
    obtain ⟨⟨k0, p0⟩, s0⟩ := A1.out.ok.at 0 (by omega)
    have hRlt := A1.out.rs.lt
    have hOlt := A1.out.ok.lt
    go_wp2
    refine post_named fun w9 hw9 => ?_
    have e9 : w9 = putRs w w1 [.int .i64 0, .slice none 0 0, .int .i64 0, .int .i64 0] false := hw9.out
    have H9 := Lib.hid (RfAt.stored (vs := [.int .i64 0, .slice none 0 0, .int .i64 0, .int .i64 0]) rfl A1.out false)
    rw [← e9] at H9
    have y0 := (H9.out.1.2 0 _ rfl).1
    have y1 := (H9.out.1.2 1 _ rfl).1
    have y2 := (H9.out.1.2 2 _ rfl).1
    have y3 := (H9.out.1.2 3 _ rfl).1
    have y4 := (H9.out.2.1.2 0 _ rfl).1
    clear e9 hw9 q0 z0 q1 z1 q2 z2 q3 z3 p0 s0 hRlt hOlt
    (try simp only [Exit.inBlock, Exit.then])
    refine bodyPost_ret (v := .tuple #[.agg #[.int .i64 0, .slice none 0 0, .int .i64 0, .int .i64 0], .bool false]) (by simp [results, Tryz.results6, go_sem, y0, y1, y2, y3, y4]) rfl ?_
    exact ⟨.slice none 0 0, rfl, World.ownsRow_nil _ _ _ _, H9.out.2.2.2⟩
  | true =>
    obtain ⟨d0, d1, d2, d3, d4, d5, d6, d7, d8⟩ := A1.out.bk.cells
    have c1 := A1.out.xb.2 0 _ rfl
    have c2 := A1.out.yb.2 0 _ rfl
    go_wp2_with fail
    refine (C2.out _ A1.out.bk.row).mono ?_
    rintro e w2 ⟨rfl, bb⟩
    have A2 := Lib.hid (A1.out.next bb)
    clear d0 d1 d2 d3 d4 d5 d6 d7 d8 c1 c2 A1 bb
    cases r2 with
    | false =>
      obtain ⟨⟨x0, q0⟩, z0⟩ := A2.out.rs.at 0 (by omega)
      obtain ⟨⟨x1, q1⟩, z1⟩ := A2.out.rs.at 1 (by omega)
      obtain ⟨⟨x2, q2⟩, z2⟩ := A2.out.rs.at 2 (by omega)
      obtain ⟨⟨x3, q3⟩, z3⟩ := A2.out.rs.at 3 (by omega)
      obtain ⟨⟨k0, p0⟩, s0⟩ := A2.out.ok.at 0 (by omega)
      have hRlt := A2.out.rs.lt
      have hOlt := A2.out.ok.lt
      go_wp2
      refine post_named fun w9 hw9 => ?_
      have e9 : w9 = putRs w w2 [.int .i64 0, .slice none 0 0, .int .i64 0, .int .i64 0] false := hw9.out
      have H9 := Lib.hid (RfAt.stored (vs := [.int .i64 0, .slice none 0 0, .int .i64 0, .int .i64 0]) rfl A2.out false)
      rw [← e9] at H9
      have y0 := (H9.out.1.2 0 _ rfl).1
      have y1 := (H9.out.1.2 1 _ rfl).1
      have y2 := (H9.out.1.2 2 _ rfl).1
      have y3 := (H9.out.1.2 3 _ rfl).1
      have y4 := (H9.out.2.1.2 0 _ rfl).1
      clear e9 hw9 q0 z0 q1 z1 q2 z2 q3 z3 p0 s0 hRlt hOlt
      (try simp only [Exit.inBlock, Exit.then])
      refine bodyPost_ret (v := .tuple #[.agg #[.int .i64 0, .slice none 0 0, .int .i64 0, .int .i64 0], .bool false]) (by simp [results, Tryz.results6, go_sem, y0, y1, y2, y3, y4]) rfl ?_
      exact ⟨.slice none 0 0, rfl, World.ownsRow_nil _ _ _ _, H9.out.2.2.2⟩
    | true =>
      obtain rfl := HX.out (by first | rfl | trivial) (by first | rfl | trivial)
      obtain ⟨d0, d1, d2, d3, d4, d5, d6, d7, d8⟩ := A2.out.bk.cells
      have c1 := A2.out.xb.2 0 _ rfl
      have c2 := A2.out.yb.2 0 _ rfl
      go_wp2_with fail
      refine (C3.out _ A2.out.bk.row).mono ?_
      rintro e w3 ⟨rfl, bb⟩
      have A3 := Lib.hid (A2.out.next bb)
      clear d0 d1 d2 d3 d4 d5 d6 d7 d8 c1 c2 A2 bb
      obtain ⟨⟨x0, q0⟩, z0⟩ := A3.out.rs.at 0 (by omega)
      obtain ⟨⟨x1, q1⟩, z1⟩ := A3.out.rs.at 1 (by omega)
      obtain ⟨⟨x2, q2⟩, z2⟩ := A3.out.rs.at 2 (by omega)
      obtain ⟨⟨x3, q3⟩, z3⟩ := A3.out.rs.at 3 (by omega)
      obtain ⟨⟨k0, p0⟩, s0⟩ := A3.out.ok.at 0 (by omega)
      have hRlt := A3.out.rs.lt
      have hOlt := A3.out.ok.lt
      go_wp2
      refine post_named fun w9 hw9 => ?_
      have e9 : w9 = putRs w w3 [.int .i64 0, .slice none 0 0, .int .i64 0, .int .i64 0] false := hw9.out
      have H9 := Lib.hid (RfAt.stored (vs := [.int .i64 0, .slice none 0 0, .int .i64 0, .int .i64 0]) rfl A3.out false)
      rw [← e9] at H9
      have y0 := (H9.out.1.2 0 _ rfl).1
      have y1 := (H9.out.1.2 1 _ rfl).1
      have y2 := (H9.out.1.2 2 _ rfl).1
      have y3 := (H9.out.1.2 3 _ rfl).1
      have y4 := (H9.out.2.1.2 0 _ rfl).1
      clear e9 hw9 q0 z0 q1 z1 q2 z2 q3 z3 p0 s0 hRlt hOlt
      (try simp only [Exit.inBlock, Exit.then])
      refine bodyPost_ret (v := .tuple #[.agg #[.int .i64 0, .slice none 0 0, .int .i64 0, .int .i64 0], .bool false]) (by simp [results, Tryz.results6, go_sem, y0, y1, y2, y3, y4]) rfl ?_
      exact ⟨.slice none 0 0, rfl, World.ownsRow_nil _ _ _ _, H9.out.2.2.2⟩
theorem owns_noncell {A B : World} {base n : Nat} {e : TypeId} {v : Value} {xs : List Value} {row : Option Nat} (h : A.ownsRow base e 1 v n xs) (hg : A.grownBy B row) (hr : ∀ r, row = some r → ∃ o : Obj, A.heap[r]? = some o ∧ o.isCells = false) : B.ownsRow base e 1 v n xs := by
  refine h.kept hg ?_
  rcases h.2 with ⟨rfl, _⟩ | ⟨g, cap, cur, rfl, _, hgb, _⟩
  · exact .inl rfl
  · refine .inr fun e' => ?_
    obtain ⟨o, ho, hc⟩ := hr g (by simpa [Value.ownBlock] using e'.symm)
    rw [hgb] at ho; cases ho; cases hc
theorem BoxF.noncell {A B : World} {C : Nat} {cs : List Value} {row : Option Nat} (h : BoxF A C cs) (hg : A.grownBy B row) (hr : ∀ r, row = some r → ∃ o : Obj, A.heap[r]? = some o ∧ o.isCells = false) : BoxF B C cs :=
  ⟨Nat.lt_of_lt_of_le h.1 hg.size, fun j v hj => ⟨cell_kept (h.2 j v hj).1 hg hr, (frozen_kept (h.2 j v hj).1 hg hr).trans (h.2 j v hj).2⟩⟩
theorem keepsFrom_below {B : Nat} {W W' : World} (h : Below W.heap.size W W') : KeepsFrom B W W' :=
  ⟨h.size, fun k o _ hk _ => (h.block k (Array.getElem?_eq_some_iff.1 hk).1).trans hk⟩
theorem putCs_heap {B k : Nat} (hk : k ≠ B) : ∀ (vs : List Value) (o : Nat) (w : World), (putCs w B o vs).heap[k]? = w.heap[k]?
  | [], _, _ => rfl
  | v :: vs, o, w => (putCs_heap hk vs (o + 1) _).trans (Below.heap_setCell w ⟨B, o, none⟩ v k hk)
theorem cell_put {W : World} {a : Addr} {v : Value} {D : Nat} (h : W.cell? a = some v) {ds : Option (List Deferred)} {o : Obj} (hD : W.heap[D]? = some (.deferred ds)) : (W.putObj D o).cell? a = some v :=
  cell_kept h (grownBy_putObj' W D o) (fun r e => by cases e; exact ⟨_, hD, rfl⟩)
theorem keepsFrom_puts {B C : Nat} (hC : C < B) (vs : List Value) (W : World) : KeepsFrom B W (putCs W C 0 vs) :=
  ⟨(Below.putCs (C := C) (Nat.le_refl C) vs 0 W W (Below.refl _ _)).size, fun k o hk hl _ => (putCs_heap (by omega) vs 0 W).trans hl⟩
def RsnSt (w W : World) (b : BookD) (x y : Int) (xs : List SepX) : Prop :=
  ∃ X : SepX, leaveL y (sepAll b x) = some X.dat ∧ BoxF W (w.heap.size + 3) [.int .i64 X.key, X.gv, .int .i64 (rsnOf b x y X.dat).first, .int .i64 (rsnOf b x y X.dat).other] ∧ BoxF W (w.heap.size + 4) [.bool true] ∧
    W.ownsRow w.heap.size 3 1 X.gv X.grp.length (X.grp.map (Value.int .i64))
theorem RsnSt.own (w : World) (b : BookD) (x y : Int) (E : Nat) : OwnFrom E (fun xs W => RsnSt w W b x y xs) := by
  rintro xs A B row ⟨X, h1, h2, h3, h4⟩ hg hr
  have hr' := fun r e => (hr r e).2
  exact ⟨X, h1, h2.noncell hg hr', h3.noncell hg hr', owns_noncell h4 hg hr'⟩

set_option maxRecDepth 100000 in
set_option maxHeartbeats 4000000 in
theorem reasonFor_yes (vf vl vg vfa vta : Value) (b : BookD) (x y : Int) (w : World) (hp : bookP b) (hx : 0 ≤ x ∧ x ≤ (b.nf : Int) - 1) (hy : 0 ≤ y ∧ y ≤ (b.nf : Int) - 1) (h : BookRow w vf vl vg vfa vta b) (hs : ∀ i, (b.f i).nm.size ≤ maxLen) :
    Calls Tryz.prog 6 #[.agg #[vf, .int .i64 b.win, .int .i64 b.draw, .int .i64 b.loss, vl, .bool b.again, vg, vfa, vta], .int .i64 x, .int .i64 y] w (ReasonL w ((leaveL y (sepAll b x)).map (rsnOf b x y))) := by
  obtain ⟨fa, fc, la, lc, ga, gc, qa, qc, ta, tc, rfl, rfl, rfl, rfl, rfl⟩ := h.form
  have C1 := Lib.hid (fun wa h1 => bookOk_impl (.slice fa b.nf fc) (.slice la b.nl lc) (.slice ga b.m gc) (.slice qa b.nfa qc) (.slice ta b.nta tc) b true wa (by simp [hp]) h1 hs)
  have C2 := Lib.hid (fun wa h1 => isTeamOf_impl (.slice fa b.nf fc) (.slice la b.nl lc) (.slice ga b.m gc) (.slice qa b.nfa qc) (.slice ta b.nta tc) b x wa h1)
  have C3 := Lib.hid (fun wa h1 => isTeamOf_impl (.slice fa b.nf fc) (.slice la b.nl lc) (.slice ga b.m gc) (.slice qa b.nfa qc) (.slice ta b.nta tc) b y wa h1)
  rw [decide_eq_true (by omega : 0 ≤ x ∧ x < (b.nf : Int))] at C2
  rw [decide_eq_true (by omega : 0 ≤ y ∧ y < (b.nf : Int))] at C3
  have A0 := Lib.hid (RfAt.made (x := x) (y := y) h)
  have hsix := h.sixty
  have HP := Lib.hid hp
  have HX := Lib.hid hx
  have HYY := Lib.hid hy
  have HR := Lib.hid h
  clear hp hx hy h hs
  obtain ⟨U, hU⟩ : ∃ U, ((((w.alloc (.cells #[.slice fa b.nf fc, .int .i64 b.win, .int .i64 b.draw, .int .i64 b.loss, .slice la b.nl lc, .bool b.again, .slice ga b.m gc, .slice qa b.nfa qc, .slice ta b.nta tc] 29)).alloc (.cells #[.int .i64 x] 3)).alloc (.cells #[.int .i64 y] 3)).alloc (.cells #[.int .i64 0, .slice none 0 0, .int .i64 0, .int .i64 0] 33)).alloc (.cells #[.bool false] 4) = U := ⟨_, rfl⟩
  have HUS : Hid (U.heap.size = w.heap.size + 5) := by show _ = _; rw [← hU]; simp
  rw [hU] at A0
  obtain ⟨d0, d1, d2, d3, d4, d5, d6, d7, d8⟩ := A0.out.bk.cells
  have c1 := A0.out.xb.2 0 _ rfl
  have c2 := A0.out.yb.2 0 _ rfl
  refine (callsIn_wide (n := 3)).1 ?_
  refine callsIn_of_wp_marks Tryz.func6 rfl trivial ?_ rfl
  simp only [Tryz.ntmps6, List.size_toArray, List.length_cons, List.length_nil, Nat.reduceAdd, Nat.reduceSub, Array.replicate_succ, Array.replicate_zero, List.push_toArray, List.append_toArray, List.nil_append, List.cons_append]
  refine wpIn_wide.2 ?_
  go_wp2_with fail
  refine (C1.out _ A0.out.bk.row).mono ?_
  rintro e w1 ⟨rfl, b1⟩
  clear hU
  have A1 := Lib.hid (A0.out.next b1)
  have HS1 := Lib.hid b1.size
  clear d0 d1 d2 d3 d4 d5 d6 d7 d8 c1 c2 A0 b1
  obtain ⟨d0, d1, d2, d3, d4, d5, d6, d7, d8⟩ := A1.out.bk.cells
  have c1 := A1.out.xb.2 0 _ rfl
  have c2 := A1.out.yb.2 0 _ rfl
  go_wp2_with fail
  refine (C2.out _ A1.out.bk.row).mono ?_
  rintro e w2 ⟨rfl, bb⟩
  have A2 := Lib.hid (A1.out.next bb)
  have HS2 := Lib.hid bb.size
  clear d0 d1 d2 d3 d4 d5 d6 d7 d8 c1 c2 A1 bb
  obtain ⟨d0, d1, d2, d3, d4, d5, d6, d7, d8⟩ := A2.out.bk.cells
  have c1 := A2.out.xb.2 0 _ rfl
  have c2 := A2.out.yb.2 0 _ rfl
  go_wp2_with fail
  refine (C3.out _ A2.out.bk.row).mono ?_
  rintro e w3 ⟨rfl, bb⟩
  have A3 := Lib.hid (A2.out.next bb)
  have HS3 := Lib.hid bb.size
  clear d0 d1 d2 d3 d4 d5 d6 d7 d8 c1 c2 A2 bb
  obtain ⟨d0, d1, d2, d3, d4, d5, d6, d7, d8⟩ := A3.out.bk.cells
  have HSS : Hid (w.heap.size + 5 ≤ w3.heap.size) := by have := HS1.out; have := HS2.out; have := HS3.out; have := HUS.out; show _ ≤ _; omega
  clear HS1 HS2 HS3 HUS
  go_wp2_with fail
  refine (judgeOf_in (.slice fa b.nf fc) (.slice la b.nl lc) (.slice ga b.m gc) (.slice qa b.nfa qc) (.slice ta b.nta tc) b _ HP.out A3.out.bk.row).mono ?_
  rintro e w4 ⟨ra, rc, rfl, hTR, b4, hlo⟩
  have HT4 := Lib.hid hTR
  have HLO := Lib.hid hlo
  have A4 := Lib.hid (A3.out.next b4)
  have HS4 := Lib.hid b4.size
  have A4j := Lib.hid (A4.out.next ((Below.refl _ _).alloc (Nat.le_refl _) (.cells #[.slice fa b.nf fc, .int .i64 b.win, .int .i64 b.draw, .int .i64 b.loss, .slice la b.nl lc, .bool b.again, .slice ga b.m gc, .slice qa b.nfa qc, .slice ta b.nta tc, .slice ra b.nf rc] 52)))
  have JB := Lib.hid (BoxN.made (u := w4) (cs := #[.slice fa b.nf fc, .int .i64 b.win, .int .i64 b.draw, .int .i64 b.loss, .slice la b.nl lc, .bool b.again, .slice ga b.m gc, .slice qa b.nfa qc, .slice ta b.nta tc, .slice ra b.nf rc]) (t := 52) (Below.refl _ _) rfl)
  have HSJ : Hid ((w4.alloc (.cells #[.slice fa b.nf fc, .int .i64 b.win, .int .i64 b.draw, .int .i64 b.loss, .slice la b.nl lc, .bool b.again, .slice ga b.m gc, .slice qa b.nfa qc, .slice ta b.nta tc, .slice ra b.nf rc] 52)).heap.size = w4.heap.size + 1) := by show _ = _; simp
  have c1 := A4j.out.xb.2 0 _ rfl
  clear hTR hlo d0 d1 d2 d3 d4 d5 d6 d7 d8 A3 b4
  go_wp2_with fail
  refine (separationsOf_impl fa fc la lc ga gc qa qc ta tc b ra rc x _).mono ?_
  rintro e w5 ⟨rfl, a1, a2, a3, b5, hs5⟩
  go_wp2_with fail
  rw [HSJ.out] at a1 a2 a3 b5 hs5
  have HBJ : Hid (Below (w4.alloc (.cells #[.slice fa b.nf fc, .int .i64 b.win, .int .i64 b.draw, .int .i64 b.loss, .slice la b.nl lc, .bool b.again, .slice ga b.m gc, .slice qa b.nfa qc, .slice ta b.nta tc, .slice ra b.nf rc] 52)).heap.size (w4.alloc (.cells #[.slice fa b.nf fc, .int .i64 b.win, .int .i64 b.draw, .int .i64 b.loss, .slice la b.nl lc, .bool b.again, .slice ga b.m gc, .slice qa b.nfa qc, .slice ta b.nta tc, .slice ra b.nf rc] 52)) w5) := by show Below _ _ _; rw [HSJ.out]; exact b5
  have A5 := Lib.hid (A4j.out.next HBJ.out)
  have JB5 := Lib.hid (BoxN.below JB.out HBJ.out)
  have HT5 := Lib.hid ((HT4.out.below ((Below.refl _ _).alloc (Nat.le_refl _) (.cells #[.slice fa b.nf fc, .int .i64 b.win, .int .i64 b.draw, .int .i64 b.loss, .slice la b.nl lc, .bool b.again, .slice ga b.m gc, .slice qa b.nfa qc, .slice ta b.nta tc, .slice ra b.nf rc] 52)) (Nat.le_refl _)).below HBJ.out (Nat.le_refl _))
  have HSZ : Hid (w.heap.size + 5 ≤ w3.heap.size ∧ w3.heap.size ≤ w4.heap.size ∧ w5.heap.size = w4.heap.size + 4) := ⟨HSS.out, HS4.out, by omega⟩
  have HSP : Hid (SpAt w5 (w4.heap.size + 1) (w4.heap.size + 1 + 2) (w4.heap.size + 1 + 1) fa fc la lc ga gc qa qc ta tc b ra rc x) := ⟨a1, a2, a3, A5.out.bk.row, HT5.out⟩
  have HSE := Lib.hid (sepIter 2 (by omega) w w5 w3.heap.size (w4.heap.size + 1) (w4.heap.size + 1 + 2) (w4.heap.size + 1 + 1) fa fc la lc ga gc qa qc ta tc b ra rc x HP.out (by have := HX.out; omega) HSP.out HR.out A5.out.bk.bel (by have := HSZ.out; omega) (by have := HSZ.out; omega) (by have := HSZ.out; omega) (by have := HSZ.out; omega) HLO.out)
  clear a1 a2 a3 b5 hs5 HT4 HLO HS4 HSS A4 A4j JB HSJ HBJ HSP HR C1 C2 C3 c1
  refine (wpIn_wide (n := 3)).1 ?_
  refine wpIn_rangeRel rfl (by omega) (gf := 40) (lb := #[.pointer (some ⟨w4.heap.size + 1, 0, none⟩), .pointer (some ⟨w4.heap.size + 1 + 2, 0, none⟩), .pointer (some ⟨w4.heap.size + 1 + 1, 0, none⟩)]) rfl trivial (enters_of Tryz.func40 (by kernel_rfl) rfl) HSE.out (Below.refl _ _) A5.out.bk.bel.size (fun _ => rfl) RelX.cells RelX.below RelX.put
    (fun (pre : List SepX) W => (∀ X ∈ pre, y ∈ X.part) ∧ Below w5.heap.size w5 W)
    (fun xs W => RsnSt w W b x y xs ∧ Below w.heap.size w W)
    (OwnFrom.and (fun _ _ _ _ h _ _ => h) (ownFrom_below (Nat.le_refl _) (Nat.le_refl _)))
    (OwnFrom.and (RsnSt.own w b x y _) (ownFrom_below (by have := HSZ.out; omega) A5.out.bk.bel.size))
    ⟨(fun X hX => by cases hX), Below.refl _ _⟩
    (fun (X : SepX) a' W => ∃ sB, w5.heap.size ≤ sB ∧ W.heap[sB]? = some (.cells #[.int .i64 X.key, X.gv, X.pv] 58 (0, 0)) ∧ a' = { tmps := #[.agg #[.slice fa b.nf fc, .int .i64 b.win, .int .i64 b.draw, .int .i64 b.loss, .slice la b.nl lc, .bool b.again, .slice ga b.m gc, .slice qa b.nfa qc, .slice ta b.nta tc], .int .i64 x, .int .i64 y, .pointer (some ⟨w.heap.size, 0, none⟩), .pointer (some ⟨w.heap.size + 1, 0, none⟩), .pointer (some ⟨w.heap.size + 1 + 1, 0, none⟩), .pointer (some ⟨w.heap.size + 1 + 1 + 1, 0, none⟩), .pointer (some ⟨w.heap.size + 1 + 1 + 1 + 1, 0, none⟩), .pointer (some ⟨w4.heap.size, 0, none⟩), .pointer (some ⟨sB, 0, none⟩), undef, .agg #[.slice fa b.nf fc, .int .i64 b.win, .int .i64 b.draw, .int .i64 b.loss, .slice la b.nl lc, .bool b.again, .slice ga b.m gc, .slice qa b.nfa qc, .slice ta b.nta tc], .bool true, .bool false, .bool false, .agg #[.slice fa b.nf fc, .int .i64 b.win, .int .i64 b.draw, .int .i64 b.loss, .slice la b.nl lc, .bool b.again, .slice ga b.m gc, .slice qa b.nfa qc, .slice ta b.nta tc], .int .i64 x, .bool true, .bool false, .bool false, .bool false, .agg #[.slice fa b.nf fc, .int .i64 b.win, .int .i64 b.draw, .int .i64 b.loss, .slice la b.nl lc, .bool b.again, .slice ga b.m gc, .slice qa b.nfa qc, .slice ta b.nta tc], .int .i64 y, .bool true, .bool false, .bool false, undef, .agg #[.slice fa b.nf fc, .int .i64 b.win, .int .i64 b.draw, .int .i64 b.loss, .slice la b.nl lc, .bool b.again, .slice ga b.m gc, .slice qa b.nfa qc, .slice ta b.nta tc], .agg #[.slice fa b.nf fc, .int .i64 b.win, .int .i64 b.draw, .int .i64 b.loss, .slice la b.nl lc, .bool b.again, .slice ga b.m gc, .slice qa b.nfa qc, .slice ta b.nta tc, .slice ra b.nf rc], .agg #[.slice fa b.nf fc, .int .i64 b.win, .int .i64 b.draw, .int .i64 b.loss, .slice la b.nl lc, .bool b.again, .slice ga b.m gc, .slice qa b.nfa qc, .slice ta b.nta tc, .slice ra b.nf rc], .int .i64 x, .func (.func 40) #[] #[.pointer (some ⟨w4.heap.size + 1, 0, none⟩), .pointer (some ⟨w4.heap.size + 1 + 2, 0, none⟩), .pointer (some ⟨w4.heap.size + 1 + 1, 0, none⟩)], .agg #[.int .i64 X.key, X.gv, X.pv], undef, undef, undef, undef, undef, undef, undef, undef, undef, undef, undef, undef, undef, undef, undef, undef, undef, undef, undef, undef, undef, undef, undef], defers := [] }) ?hAx ?assign ?body ?done ?stop
  case hAx =>
    rintro X a' s A B row ⟨sB, h1, h2, h3⟩ hg hr
    exact ⟨sB, h1, (grownBy_keeps_cells hg (fun r e => (hr r e).2) h2 rfl).trans h2, h3⟩
  case assign =>
    rintro l pre ⟨key, gv, grp, pv, part⟩ W0 W K hI hb hr hsz hK
    obtain ⟨xa1, xc1, e1⟩ := owns_form hr.2.1
    obtain ⟨xa2, xc2, e2⟩ := owns_form hr.2.2.1
    dsimp only at e1 e2
    subst e1
    subst e2
    have hge : Hid (w5.heap.size ≤ W.heap.size) := by have := hb.size; show _ ≤ _; omega
    clear hI hb hr hsz
    gi_wp2
    exact hK _ _ ((Below.refl _ _).alloc (Nat.le_refl _) _) ⟨W.heap.size, hge.out, World.alloc_heap_new _ _, rfl⟩
  case body =>
    rintro l pre ⟨key, gv, grp, pv, part⟩ a' W0 W ⟨hpre, hB0⟩ hb hr ⟨sB, hsB, hcs, rfl⟩ hsz
    obtain ⟨xa1, xc1, e1⟩ := owns_form hr.2.1
    obtain ⟨xa2, xc2, e2⟩ := owns_form hr.2.2.1
    dsimp only at e1 e2
    subst e1
    subst e2
    have hB : Below w5.heap.size w5 W := hB0.trans (hb.mono hB0.size)
    have HA := Lib.hid (A5.out.next hB)
    have HJB := Lib.hid (BoxN.below JB5.out hB)
    have HTB := Lib.hid (HT5.out.below hB (Nat.le_refl _))
    obtain ⟨rest, hrest⟩ := hr.1
    have HSI := Lib.hid (sep_in b x (allL b.nf) 0 (allL_mem.2 (by have := HX.out; omega)) ⟨key, grp, part⟩ (by
      have e : sepP b x (allL b.nf) 0 = pre.map SepX.dat ++ SepX.dat ⟨key, .slice xa1 grp.length xc1, grp, .slice xa2 part.length xc2, part⟩ :: rest := hrest
      rw [e]
      exact List.mem_append_right _ (List.mem_cons_self ..)))
    have hgl : grp.length ≤ 8 := by have h1 := HSI.out.2.2.1; rw [allL_len] at h1; have := HP.out.1.1; dsimp only at h1; omega
    have hpl : part.length ≤ 8 := by have h1 := HSI.out.2.2.2.1; rw [allL_len] at h1; have := HP.out.1.1; dsimp only at h1; omega
    have HG : Hid (IntRow W (.slice xa1 grp.length xc1) grp.length (getI grp)) := IntRow.of_list hr.2.1 (by omega)
    have CC := Lib.hid (slicesContains_int (.slice xa2 part.length xc2) part.length (getI part) y (decide (y ∈ part)) W (by rw [decide_eq_true_eq, hasP_mem]) (IntRow.of_list hr.2.2.1 (by omega)))
    have HGO := Lib.hid hr.2.1
    have HSG := Lib.hid hsB
    have hkey : ∀ j, j < 3 → W.cell? ⟨sB, j, none⟩ = (#[Value.int .i64 key, .slice xa1 grp.length xc1, .slice xa2 part.length xc2])[j]? := fun j _ => by simp [World.cell?, hcs]
    have hk0 := hkey 0 (by omega)
    have hk1 := hkey 1 (by omega)
    have hk2 := hkey 2 (by omega)
    simp at hk0 hk1 hk2
    have HSB : Hid (sB < W.heap.size) := World.block_lt_of_cell? W _ hk0
    have HB := Lib.hid hB
    have HPRE := Lib.hid hpre
    have HREST := Lib.hid hrest
    have hcy := HA.out.yb.2 0 _ rfl
    clear hkey hcs hr hB0 hB hb hpre hrest hsB
    by_cases hyp : y ∈ part
    · rw [decide_eq_true hyp] at CC
      have HYP := Lib.hid hyp
      clear hyp
      gi_wp2_with (refine ⟨trivial, ?_⟩; gi_at_call 20; refine (CallsIn.inRound l (callsIn_wide.2 CC.out)).mono ?_; rintro e w6 ⟨rfl, hw6⟩; subst hw6)
      exact ⟨KeepsFrom.refl _ _, Kept.of_below (Below.refl _ _) HA.out.bk.bel.size, fun Y hY => (List.mem_append.1 hY).elim (HPRE.out Y) (fun h => by rw [List.mem_singleton.1 h]; exact HYP.out), HB.out⟩
    · rw [decide_eq_false hyp] at CC
      have HLV : Hid (leaveL y (sepAll b x) = some (SepX.dat ⟨key, .slice xa1 grp.length xc1, grp, .slice xa2 part.length xc2, part⟩)) := by
        show _ = _
        rw [HREST.out]
        exact leaveL_at (fun q hq => by obtain ⟨X, hX, rfl⟩ := List.mem_map.1 hq; exact HPRE.out X hX) hyp
      clear hyp
      obtain ⟨d0, d1, d2, d3, d4, d5, d6, d7, d8, d9⟩ : W.cell? ⟨w4.heap.size, 0, none⟩ = some (.slice fa b.nf fc) ∧ W.cell? ⟨w4.heap.size, 1, none⟩ = some (.int .i64 b.win) ∧ W.cell? ⟨w4.heap.size, 2, none⟩ = some (.int .i64 b.draw) ∧ W.cell? ⟨w4.heap.size, 3, none⟩ = some (.int .i64 b.loss) ∧ W.cell? ⟨w4.heap.size, 4, none⟩ = some (.slice la b.nl lc) ∧ W.cell? ⟨w4.heap.size, 5, none⟩ = some (.bool b.again) ∧ W.cell? ⟨w4.heap.size, 6, none⟩ = some (.slice ga b.m gc) ∧ W.cell? ⟨w4.heap.size, 7, none⟩ = some (.slice qa b.nfa qc) ∧ W.cell? ⟨w4.heap.size, 8, none⟩ = some (.slice ta b.nta tc) ∧ W.cell? ⟨w4.heap.size, 9, none⟩ = some (.slice ra b.nf rc) := ⟨HJB.out.2 0 _ rfl, HJB.out.2 1 _ rfl, HJB.out.2 2 _ rfl, HJB.out.2 3 _ rfl, HJB.out.2 4 _ rfl, HJB.out.2 5 _ rfl, HJB.out.2 6 _ rfl, HJB.out.2 7 _ rfl, HJB.out.2 8 _ rfl, HJB.out.2 9 _ rfl⟩
      have CV := Lib.hid (valueBy_impl fa fc la lc ga gc qa qc ta tc b ra rc key (.slice xa1 grp.length xc1) grp.length (getI grp) W HP.out HA.out.bk.row HTB.out HG.out)
      gi_wp2_with (first
        | (refine ⟨trivial, ?_⟩; gi_at_call 20; refine (CallsIn.inRound l (callsIn_wide.2 CC.out)).mono ?_; rintro e w6 ⟨rfl, hw6⟩; subst hw6)
        | (refine ⟨trivial, ?_⟩; gi_at_call 21; refine (CallsIn.inRound l (callsIn_wide.2 CV.out)).mono ?_; rintro e w6 ⟨fv, rfl, hfv, b6⟩))
      obtain ⟨fN, bd, _, rfl, hen, hca⟩ := hfv
      have HEN := Lib.hid hen
      have HRS : Hid ((rsnOf b x y (SepX.dat ⟨key, .slice xa1 grp.length xc1, grp, .slice xa2 part.length xc2, part⟩)).first = bookV b key (getI grp) grp.length x.toNat ∧ (rsnOf b x y (SepX.dat ⟨key, .slice xa1 grp.length xc1, grp, .slice xa2 part.length xc2, part⟩)).other = bookV b key (getI grp) grp.length y.toNat) := ⟨rfl, rfl⟩
      generalize bookV b key (getI grp) grp.length = V at *
      have HCX : Hid (∀ U, Below w6.heap.size w6 U → Calls Tryz.prog fN (bd.push (.int .i64 x)) U fun e w' => e = .returned (.int .i64 (V x.toNat)) ∧ Below U.heap.size U w') := fun U hU => by
        have h1 := hca x.toNat U (by have := HX.out; omega) hU
        rw [Int.toNat_of_nonneg HX.out.1] at h1
        exact h1
      have HCY : Hid (∀ U, Below w6.heap.size w6 U → Calls Tryz.prog fN (bd.push (.int .i64 y)) U fun e w' => e = .returned (.int .i64 (V y.toNat)) ∧ Below U.heap.size U w') := fun U hU => by
        have h1 := hca y.toNat U (by have := HYY.out; omega) hU
        rw [Int.toNat_of_nonneg HYY.out.1] at h1
        exact h1
      obtain ⟨S, HSd⟩ : ∃ S : World → Prop, S = fun U => RfAt w U fa fc la lc ga gc qa qc ta tc b x y ∧ (U.cell? ⟨sB, 0, none⟩ = some (.int .i64 key) ∧ U.cell? ⟨sB, 1, none⟩ = some (.slice xa1 grp.length xc1) ∧ sB < U.heap.size) := ⟨_, rfl⟩
      have KS : Hid (∀ wa wb, S wa → Below wa.heap.size wa wb → S wb) := by subst HSd; exact fun wa wb h b => ⟨h.1.next b, (b.cell (p := ⟨sB, 0, none⟩) h.2.2.2).trans h.2.1, (b.cell (p := ⟨sB, 1, none⟩) h.2.2.2).trans h.2.2.1, Nat.lt_of_lt_of_le h.2.2.2 b.size⟩
      have OS : Hid (∀ wa, S wa → RfAt w wa fa fc la lc ga gc qa qc ta tc b x y ∧ (wa.cell? ⟨sB, 0, none⟩ = some (.int .i64 key) ∧ wa.cell? ⟨sB, 1, none⟩ = some (.slice xa1 grp.length xc1) ∧ sB < wa.heap.size)) := by subst HSd; exact fun wa h => h
      have IS : Hid (S W) := by subst HSd; exact ⟨HA.out, hk0, hk1, HSB.out⟩
      have PS : Hid (∀ wa C vs, S wa → C = w.heap.size + 3 ∧ vs.length = 4 ∨ C = w.heap.size + 4 ∧ vs.length = 1 → S (putCs wa C 0 vs)) := by
        subst HSd
        intro wa C vs h hc
        have h5 : sB ≠ C := by have := HSG.out; have := HSZ.out; omega
        have h6 : sB < (putCs wa C 0 vs).heap.size := Nat.lt_of_lt_of_le h.2.2.2 (Below.putCs (C := C) (Nat.le_refl C) vs 0 wa wa (Below.refl _ _)).size
        rcases hc with ⟨rfl, hl⟩ | ⟨rfl, hl⟩
        · exact ⟨h.1.putr vs hl, put_cell (p := ⟨sB, 0, none⟩) h5 vs 0 wa h.2.1, put_cell (p := ⟨sB, 1, none⟩) h5 vs 0 wa h.2.2.1, h6⟩
        · exact ⟨h.1.puto vs hl, put_cell (p := ⟨sB, 0, none⟩) h5 vs 0 wa h.2.1, put_cell (p := ⟨sB, 1, none⟩) h5 vs 0 wa h.2.2.1, h6⟩
      have IS6 : Hid (S w6.drew) := KS.out _ _ IS.out b6.drew
      have HB6 := Lib.hid b6
      clear HSd IS hen hca d0 d1 d2 d3 d4 d5 d6 d7 d8 d9 hk0 hk1 hk2 hcy b6
      refine region_round_held (S := S) (by kernel_rfl) (by kernel_rfl) (fun h => by obtain ⟨_, _, h⟩ := h; exact h) IS6.out (fun hHeld => ?_)
      refine wpAnyH_take (i := 0) (v := ?_) rfl (by kernel_rfl) (by kernel_rfl) (by kernel_rfl) (fun _ _ _ h => h) (Or.inl ⟨by rfl, ?_⟩) hHeld ?_
      rotate_left
      · (intro wa hSw; go_simp; try with_reducible rfl)
      simp only [Act.put, List.getElem_toArray, List.getElem_cons_zero, List.setIfInBounds_toArray, List.set_cons_zero, List.set_cons_succ]
      refine wpAnyH_take (i := 1) (v := ?_) rfl (by kernel_rfl) (by kernel_rfl) (by kernel_rfl) (fun _ _ _ h => h) (Or.inl ⟨by rfl, ?_⟩) hHeld ?_
      rotate_left
      · (intro wa hSw; have K := OS.out _ hSw; obtain ⟨f0, f1, f2⟩ := K.2; go_simp; try with_reducible rfl)
      simp only [Act.put, List.getElem_toArray, List.getElem_cons_zero, List.getElem_cons_succ, List.setIfInBounds_toArray, List.set_cons_zero, List.set_cons_succ]
      refine wpAnyH_take (i := 2) (v := ?_) rfl (by kernel_rfl) (by kernel_rfl) (by kernel_rfl) (fun _ _ _ h => h) (Or.inl ⟨by rfl, ?_⟩) hHeld ?_
      rotate_left
      · (intro wa hSw; go_simp; try with_reducible rfl)
      simp only [Act.put, List.getElem_toArray, List.getElem_cons_zero, List.getElem_cons_succ, List.setIfInBounds_toArray, List.set_cons_zero, List.set_cons_succ]
      refine wpAnyH_take (i := 3) (v := ?_) rfl (by kernel_rfl) (by kernel_rfl) (by kernel_rfl) (fun _ _ _ h => h) (Or.inl ⟨by rfl, ?_⟩) hHeld ?_
      rotate_left
      · (intro wa hSw; have K := OS.out _ hSw; obtain ⟨f0, f1, f2⟩ := K.2; go_simp; try with_reducible rfl)
      simp only [Act.put, List.getElem_toArray, List.getElem_cons_zero, List.getElem_cons_succ, List.setIfInBounds_toArray, List.set_cons_zero, List.set_cons_succ]
      refine wpAnyH_take (i := 4) (v := ?_) rfl (by kernel_rfl) (by kernel_rfl) (by kernel_rfl) (fun _ _ _ h => h) (Or.inl ⟨by rfl, ?_⟩) hHeld ?_
      rotate_left
      · (intro wa hSw; go_simp; try with_reducible rfl)
      simp only [Act.put, List.getElem_toArray, List.getElem_cons_zero, List.getElem_cons_succ, List.setIfInBounds_toArray, List.set_cons_zero, List.set_cons_succ]
      refine wpAnyH_take (i := 5) (v := ?_) rfl (by kernel_rfl) (by kernel_rfl) (by kernel_rfl) (fun _ _ _ h => h) (Or.inl ⟨by rfl, ?_⟩) hHeld ?_
      rotate_left
      · (intro wa hSw; have K := OS.out _ hSw; have cx := K.1.xb.2 0 _ rfl; go_simp; try with_reducible rfl)
      simp only [Act.put, List.getElem_toArray, List.getElem_cons_zero, List.getElem_cons_succ, List.setIfInBounds_toArray, List.set_cons_zero, List.set_cons_succ]
      refine wpAnyH_take (i := 7) (v := ?_) rfl (by kernel_rfl) (by kernel_rfl) (by kernel_rfl) (fun _ _ _ h => h) (Or.inl ⟨by rfl, ?_⟩) hHeld ?_
      rotate_left
      · (intro wa hSw; go_simp; try with_reducible rfl)
      simp only [Act.put, List.getElem_toArray, List.getElem_cons_zero, List.getElem_cons_succ, List.setIfInBounds_toArray, List.set_cons_zero, List.set_cons_succ]
      refine wpAnyH_take (i := 8) (v := ?_) rfl (by kernel_rfl) (by kernel_rfl) (by kernel_rfl) (fun _ _ _ h => h) (Or.inl ⟨by rfl, ?_⟩) hHeld ?_
      rotate_left
      · (intro wa hSw; have K := OS.out _ hSw; have cy := K.1.yb.2 0 _ rfl; go_simp; try with_reducible rfl)
      simp only [Act.put, List.getElem_toArray, List.getElem_cons_zero, List.getElem_cons_succ, List.setIfInBounds_toArray, List.set_cons_zero, List.set_cons_succ]
      refine wpAnyH_ready (rs := [6]) (by kernel_rfl) (by simp) ?_
      refine AllReadyH.cons (o := _) rfl (fun K hK => ?_) AllReadyH.nil
      have hrun := HEN.out (bd.push (.int .i64 x)) w6.drew
      go_simp
      refine (HCX.out _ (Below.refl _ _).drew).mono ?_
      rintro e w101 ⟨rfl, b101⟩
      have HB101 : Hid (Below w6.heap.size w6 w101) := (Below.refl _ _).drew.trans (b101.mono (Nat.le_refl _))
      clear hrun
      (try go_wp2_with fail)
      refine hK.out _ _ ?_ (fun hHeld101 => ?_)
      · exact KS.out _ _ hHeld b101
      clear hK K
      refine wpAnyH_ready (rs := [9]) (by kernel_rfl) (by simp) ?_
      refine AllReadyH.cons (o := _) rfl (fun K hK => ?_) AllReadyH.nil
      have hrun := HEN.out (bd.push (.int .i64 y)) w101
      go_simp
      refine (HCY.out _ HB101.out).mono ?_
      rintro e w102 ⟨rfl, b102⟩
      have HB102 : Hid (Below w6.heap.size w6 w102) := HB101.out.trans (b102.mono HB101.out.size)
      clear hrun
      (try go_wp2_with fail)
      refine hK.out _ _ ?_ (fun hHeld102 => ?_)
      · exact KS.out _ _ hHeld101 b102
      clear hK K
      refine wpAnyH_take (i := 10) (v := ?_) rfl (by kernel_rfl) (by kernel_rfl) (by kernel_rfl) (fun _ _ _ h => h) (Or.inl ⟨by rfl, ?_⟩) hHeld102 ?_
      rotate_left
      · (intro wa hSw; go_simp; try with_reducible rfl)
      simp only [Act.put, List.getElem_toArray, List.getElem_cons_zero, List.getElem_cons_succ, List.setIfInBounds_toArray, List.set_cons_zero, List.set_cons_succ]
      refine wpAnyH_ready (rs := [11]) (by kernel_rfl) (by simp) ?_
      refine AllReadyH.cons (o := _) rfl (fun K hK => ?_) AllReadyH.nil
      have KK := (OS.out _ hHeld102).1
      obtain ⟨⟨x0, q0⟩, z0⟩ := KK.rs.at 0 (by omega)
      obtain ⟨⟨x1, q1⟩, z1⟩ := KK.rs.at 1 (by omega)
      obtain ⟨⟨x2, q2⟩, z2⟩ := KK.rs.at 2 (by omega)
      obtain ⟨⟨x3, q3⟩, z3⟩ := KK.rs.at 3 (by omega)
      have hRlt := KK.rs.lt
      go_simp
      refine hK.out _ _ ?_ (fun hHeld103 => ?_)
      · exact PS.out w102 (w.heap.size + 3) [.int .i64 key, .slice xa1 grp.length xc1, .int .i64 (V x.toNat), .int .i64 (V y.toNat)] hHeld102 (.inl ⟨rfl, rfl⟩)
      clear hK K q0 z0 q1 z1 q2 z2 q3 z3
      have hHeld104 : S (putCs w102 (w.heap.size + 3) 0 [.int .i64 key, .slice xa1 grp.length xc1, .int .i64 (V x.toNat), .int .i64 (V y.toNat)]) := hHeld103
      have HH4 := Lib.hid hHeld104
      clear hHeld104
      refine wpAnyH_ready (rs := [12]) (by kernel_rfl) (by simp) ?_
      refine AllReadyH.cons (o := _) rfl (fun K hK => ?_) AllReadyH.nil
      have KK3 := (OS.out _ hHeld103).1
      obtain ⟨⟨k0, p0⟩, s0⟩ := KK3.ok.at 0 (by omega)
      have hOlt := KK3.ok.lt
      go_simp
      refine hK.out _ _ ?_ (fun hHeld105 => ?_)
      · exact PS.out _ (w.heap.size + 4) [.bool true] HH4.out (.inr ⟨rfl, rfl⟩)
      clear hK K p0 s0 hHeld105 hHeld103
      refine wpAnyH_done (by kernel_rfl) ?_ _
      have HB2 : Hid (Below W.heap.size W w102) := HB6.out.trans (HB102.out.mono HB6.out.size)
      refine post_named fun w9 hw9 => ?_
      have e9 : w9 = putRs w w102 [.int .i64 key, .slice xa1 grp.length xc1, .int .i64 (V x.toNat), .int .i64 (V y.toNat)] true := hw9.out
      have H9 := Lib.hid (RfAt.stored (vs := [.int .i64 key, .slice xa1 grp.length xc1, .int .i64 (V x.toNat), .int .i64 (V y.toNat)]) rfl KK true)
      have HG9 : Hid ((putRs w w102 [.int .i64 key, .slice xa1 grp.length xc1, .int .i64 (V x.toNat), .int .i64 (V y.toNat)] true).ownsRow w.heap.size 3 1 (.slice xa1 grp.length xc1) grp.length (grp.map (Value.int .i64))) :=
        owns_mono (owns_puts (w := w102) (B := w.heap.size + 4) (by have := HSZ.out; omega) [.bool true] 0 _ (owns_puts (w := w102) (B := w.heap.size + 3) (by have := HSZ.out; omega) [.int .i64 key, .slice xa1 grp.length xc1, .int .i64 (V x.toNat), .int .i64 (V y.toNat)] 0 _ (owns_below HGO.out HB2.out (Nat.le_refl _)))) (by have := HSZ.out; omega)
      have HK9 : Hid (KeepsFrom w5.heap.size W (putRs w w102 [.int .i64 key, .slice xa1 grp.length xc1, .int .i64 (V x.toNat), .int .i64 (V y.toNat)] true)) := (keepsFrom_below HB2.out).trans ((keepsFrom_puts (by have := HSZ.out; omega) [.int .i64 key, .slice xa1 grp.length xc1, .int .i64 (V x.toNat), .int .i64 (V y.toNat)] _).trans (keepsFrom_puts (by have := HSZ.out; omega) [.bool true] _))
      rw [← e9] at H9 HG9 HK9
      clear e9 hw9 HH4 KK KK3 hHeld hHeld101 hHeld102 KS OS PS IS6
      gi_wp2
      exact ⟨HK9.out, ⟨_, HLV.out, by rw [HRS.out.1, HRS.out.2]; exact H9.out.1, H9.out.2.1, HG9.out⟩, H9.out.2.2.2⟩
  case done =>
    rintro D xs W hD hS ⟨hall, hB⟩ hK
    have A := A5.out.next hB
    have HA := Lib.hid A
    have HN : Hid (leaveL y (sepAll b x) = none) := leaveL_none fun q hq => by
      have e : xs.map SepX.dat = sepAll b x := hS
      rw [← e] at hq
      obtain ⟨X, hX, rfl⟩ := List.mem_map.1 hq
      exact hall X hX
    obtain ⟨⟨x0, q0⟩, z0⟩ := A.rs.at 0 (by omega)
    obtain ⟨⟨x1, q1⟩, z1⟩ := A.rs.at 1 (by omega)
    obtain ⟨⟨x2, q2⟩, z2⟩ := A.rs.at 2 (by omega)
    obtain ⟨⟨x3, q3⟩, z3⟩ := A.rs.at 3 (by omega)
    obtain ⟨⟨k0, p0⟩, s0⟩ := A.ok.at 0 (by omega)
    have hRlt := A.rs.lt
    have hOlt := A.ok.lt
    have HDN : Hid (w.heap.size + 5 ≤ D) := by have := HSZ.out; show _ ≤ _; omega
    have HKD := Lib.hid hK
    clear hall hS hB hK A hD
    go_wp2
    refine post_named fun w9 hw9 => ?_
    have e9 : w9 = putRs w W [.int .i64 0, .slice none 0 0, .int .i64 0, .int .i64 0] false := hw9.out
    have H9 := Lib.hid (RfAt.stored (vs := [.int .i64 0, .slice none 0 0, .int .i64 0, .int .i64 0]) rfl HA.out false)
    have hK9 : (putRs w W [.int .i64 0, .slice none 0 0, .int .i64 0, .int .i64 0] false).heap[D]? = some (.deferred (some [])) := by
      have := HDN.out
      rw [putCs_heap (by omega), putCs_heap (by omega)]; exact HKD.out
    rw [← e9] at H9 hK9
    clear e9 hw9 q0 z0 q1 z1 q2 z2 q3 z3 p0 s0 hRlt hOlt
    have y0 := cell_put (o := .deferred none) (H9.out.1.2 0 _ rfl).1 hK9
    have y1 := cell_put (o := .deferred none) (H9.out.1.2 1 _ rfl).1 hK9
    have y2 := cell_put (o := .deferred none) (H9.out.1.2 2 _ rfl).1 hK9
    have y3 := cell_put (o := .deferred none) (H9.out.1.2 3 _ rfl).1 hK9
    have y4 := cell_put (o := .deferred none) (H9.out.2.1.2 0 _ rfl).1 hK9
    refine ⟨by simp, .inl ⟨_, _, rfl, run_takeDeferred hK9, ?_⟩⟩
    refine ⟨.tuple #[.agg #[.int .i64 0, .slice none 0 0, .int .i64 0, .int .i64 0], .bool false], ?_, ?_⟩
    · simp [results, Tryz.f6, go_sem, y0, y1, y2, y3, y4]
    · rw [HN.out]
      exact ⟨.slice none 0 0, rfl, World.ownsRow_nil _ _ _ _, H9.out.2.2.2.trans (below_put _ _ _ _ (by have := HDN.out; omega))⟩
  case stop =>
    rintro D pre W hD hS ⟨⟨X, hX, r1, r2, ho⟩, hB⟩ hK
    obtain ⟨sa, sc, e1⟩ := owns_form ho
    have y0 := cell_put (o := .deferred none) (r1.2 0 _ rfl).1 hK
    have y1 := cell_put (o := .deferred none) (r1.2 1 _ rfl).1 hK
    have y2 := cell_put (o := .deferred none) (r1.2 2 _ rfl).1 hK
    have y3 := cell_put (o := .deferred none) (r1.2 3 _ rfl).1 hK
    have y4 := cell_put (o := .deferred none) (r2.2 0 _ rfl).1 hK
    have HO := Lib.hid (ownsRow_putObj ho (.deferred none) hK rfl)
    have HB : Hid (Below w.heap.size w (W.putObj D (.deferred none))) := hB.trans (below_put _ _ _ _ (by have := HSZ.out; omega))
    have HXX := Lib.hid hX
    have HK := Lib.hid hK
    clear hX r1 r2 ho hB hK hS
    gi_wp2
    refine ⟨by simp, .inl ⟨_, _, rfl, run_takeDeferred HK.out, ?_⟩⟩
    refine ⟨.tuple #[.agg #[.int .i64 X.key, X.gv, .int .i64 (rsnOf b x y X.dat).first, .int .i64 (rsnOf b x y X.dat).other], .bool true], ?_, ?_⟩
    · simp [results, Tryz.f6, go_sem, y0, y1, y2, y3, y4]
    · rw [HXX.out]
      exact ⟨X.gv, rfl, HO.out, HB.out⟩
end Go.Proofs.YteciobkjfmddcaaGreatDoor
set_option linter.unusedVariables false
namespace Go.Proofs.YteciobkjfmddcaaGreatDoor
open Go.RowKit

theorem reasonFor_impl (vf vl vg vfa vta : Value) (b : BookD) (x y : Int) (R : Bool) (w : World) (hR : R = true ↔ pairP b x y) (h : BookRow w vf vl vg vfa vta b) (hs : ∀ i, (b.f i).nm.size ≤ maxLen) (hn6 : b.nf ≤ 1048576) :
    Calls Tryz.prog 6 #[.agg #[vf, .int .i64 b.win, .int .i64 b.draw, .int .i64 b.loss, vl, .bool b.again, vg, vfa, vta], .int .i64 x, .int .i64 y] w (ReasonL w (if R = true then findP b x y (allL b.nf) 0 else none)) := by
  by_cases hall : bookP b ∧ (0 ≤ x ∧ x ≤ (b.nf : Int) - 1) ∧ (0 ≤ y ∧ y ≤ (b.nf : Int) - 1)
  · obtain ⟨hp, hx, hy⟩ := hall
    have h1 := reasonFor_yes vf vl vg vfa vta b x y w hp hx hy h hs
    have h2 := sep_find b x y (allL b.nf) 0 (allL_mem.2 (by omega)) (allL_mem.2 (by omega)) (allL_nodup _)
    have e : (if R = true then findP b x y (allL b.nf) 0 else none) = if x = y then none else findP b x y (allL b.nf) 0 := by
      by_cases hxy : x = y
      · have : R = false := by
          cases R with
          | false => rfl
          | true => exact absurd hxy (hR.1 rfl).2.2.2
        rw [this, if_pos hxy]; rfl
      · rw [if_neg hxy, if_pos (hR.2 ⟨hp, hx, hy, hxy⟩)]
    rw [e, ← h2]
    exact h1
  · have e : R = false := by
      cases R with
      | false => rfl
      | true => exact absurd ⟨(hR.1 rfl).1, (hR.1 rfl).2.1, (hR.1 rfl).2.2.1⟩ hall
    rw [e]
    exact reasonFor_no vf vl vg vfa vta b x y w hall h hs
set_option maxRecDepth 100000 in
set_option maxHeartbeats 4000000 in
theorem standsAbove_impl (vf vl vg vfa vta : Value) (b : BookD) (x y : Int) (R : Bool) (w : World) (hR : R = true ↔ pairP b x y) (h : BookRow w vf vl vg vfa vta b) (hs : ∀ i, (b.f i).nm.size ≤ maxLen) (hn6 : b.nf ≤ 1048576) :
    Calls Tryz.prog 8 #[.agg #[vf, .int .i64 b.win, .int .i64 b.draw, .int .i64 b.loss, vl, .bool b.again, vg, vfa, vta], .int .i64 x, .int .i64 y] w fun e w' => e = .returned (.bool (aboveB (if R = true then findP b x y (allL b.nf) 0 else none))) ∧ Below w.heap.size w w' := by
  obtain ⟨fa, fc, la, lc, ga, gc, qa, qc, ta, tc, rfl, rfl, rfl, rfl, rfl⟩ := h.form
  have C1 := Lib.hid (fun wa h1 => reasonFor_impl (.slice fa b.nf fc) (.slice la b.nl lc) (.slice ga b.m gc) (.slice qa b.nfa qc) (.slice ta b.nta tc) b x y R wa hR h1 hs hn6)
  generalize (if R = true then findP b x y (allL b.nf) 0 else none) = rq at *
  have K0 := Lib.hid (BkAt.made h 29)
  obtain ⟨U, hU⟩ : ∃ U, w.alloc (.cells #[.slice fa b.nf fc, .int .i64 b.win, .int .i64 b.draw, .int .i64 b.loss, .slice la b.nl lc, .bool b.again, .slice ga b.m gc, .slice qa b.nfa qc, .slice ta b.nta tc] 29) = U := ⟨_, rfl⟩
  have hU' : w.alloc (.cells (bkList fa fc la lc ga gc qa qc ta tc b).toArray 29) = U := hU
  have K1 := K0
  rw [hU'] at K1
  clear hU' K0
  clear h hR hs
  obtain ⟨d0, d1, d2, d3, d4, d5, d6, d7, d8⟩ := K1.out.cells
  go_enter Tryz.func8, Tryz.ntmps8
  go_wp2_with fail
  refine (C1.out _ K1.out.row).mono ?_
  rintro e w2 ⟨rv, rfl, hro, b2⟩
  clear hU
  obtain ⟨ra, rc, hrf⟩ := owns_form hro
  subst hrf
  have HB := Lib.hid (K1.out.bel.trans (b2.mono K1.out.bel.size))
  clear hro b2 d0 d1 d2 d3 d4 d5 d6 d7 d8 K1 C1
  unfold RsnD.vals
  have hA : ∀ o, Below w.heap.size w (w2.alloc o) := fun o => HB.out.alloc HB.out.size o
  have HA := Lib.hid hA
  clear hA
  cases rq with
  | none =>
    go_wp2
    go_ret
    exact ⟨rfl, HA.out _⟩
  | some r =>
    simp only [Option.getD_some, Option.isSome_some]
    generalize r.grp.length = ln at *
    obtain ⟨q, hq⟩ : ∃ q, decide (r.other < r.first) = q := ⟨_, rfl⟩
    have HQ : Hid (q = aboveB (some r)) := hq.symm
    go_wp2
    go_ret
    exact ⟨by rw [← HQ.out]; rfl, HA.out _⟩
end Go.Proofs.YteciobkjfmddcaaGreatDoor
set_option linter.unusedVariables false
namespace Go.Proofs.YteciobkjfmddcaaGreatDoor
open Go.RowKit

def sameL (n n' : Nat) (g g' : Nat → Int) : Prop := n = n' ∧ ∀ i, i < n → g i = g' i
theorem slicesEqual_int (v v' : Value) (n n' : Nat) (g g' : Nat → Int) (R : Bool) (w : World) (hR : R = true ↔ sameL n n' g g') (h : IntRow w v n g) (h' : IntRow w v' n' g') :
    Calls Tryz.prog 28 #[v, v'] w fun e w' => e = .returned (.bool R) ∧ Below w.heap.size w w' := by
  obtain ⟨a, cap, rfl, hn, hv⟩ := h.form
  obtain ⟨a', cap', rfl, hn', hv'⟩ := h'.form
  have HV := Lib.hid hv
  have HV' := Lib.hid hv'
  have HR := Lib.hid hR
  clear hv hv' h h' hR
  by_cases hnn : n = n'
  case neg =>
    have hf : R = false := by
      cases R with
      | false => rfl
      | true => exact absurd (HR.out.1 rfl).1 hnn
    subst hf
    have g1 : ((n : Int) != (n' : Int)) = true := by simpa using fun e : (n : Int) = n' => hnn (by omega)
    have g2 : (n != n') = true := by simpa using hnn
    have HNN := Lib.hid hnn
    clear hnn HR
    go_enter Tryz.func28, Tryz.ntmps28
    go_wp2
    go_ret
    exact ⟨rfl, Below.refl _ _⟩
  subst hnn
  have HNO : Hid (∀ k, k < n → g k ≠ g' k → R = false) := fun k hk hne => by
    cases R with
    | false => rfl
    | true => exact absurd ((HR.out.1 rfl).2 k hk) hne
  have HYES : Hid ((∀ i, i < n → g i = g' i) → R = true) := fun h => HR.out.2 ⟨rfl, h⟩
  clear HR
  go_enter Tryz.func28, Tryz.ntmps28
  go_wp2
  go_loopw [13] (fun i wr => ∃ k q : Nat, k ≤ n ∧ i = .int .i64 k ∧ Hid (∀ i, i < k → g i = g' i) ∧ wr = w.drewN q) (fun i _ => n - (RowKit.intOf i).toNat)
  case atStart => exact ⟨0, 0, Nat.zero_le _, rfl, fun i hi => absurd hi (by omega), rfl⟩
  case round =>
    obtain ⟨k, q, hk, rfl, hok, rfl⟩ := hrel
    by_cases hlt : k < n
    · obtain ⟨b, off, rfl, hc⟩ := HV.out (by omega)
      obtain ⟨b', off', rfl, hc'⟩ := HV'.out (by omega)
      have c1 := hc k hlt
      have c2 := hc' k hlt
      have H1 := Lib.hid (HNO.out k hlt)
      have H2 : Hid (g k = g' k → ∀ i, i < k + 1 → g i = g' i) := fun h i hi => by
        by_cases hik : i = k
        · subst hik; exact h
        · exact hok.out i (by omega)
      clear hc hc' HV HV' HNO HYES hok
      generalize g k = x at *
      generalize g' k = y at *
      by_cases hxy : x = y
      · subst hxy
        have HN := Lib.hid (H2.out rfl)
        clear H1 H2
        go_wp2
        go_quiet (fail)
        go_wp2
        go_roundw
        case rel => exact ⟨k + 1, q + nq, by omega, by go_num, HN.out, rfl⟩
        case measure => simp [RowKit.intOf]; omega
      · obtain rfl := H1.out hxy
        have g1 : (x != y) = true := bne_iff_ne.2 hxy
        have HX := Lib.hid hxy
        clear H1 H2 hxy
        go_wp2
        go_quiet (fail)
        go_wp2
        go_ret
        exact ⟨rfl, below_drewN (below_drewN (Below.refl _ _) q) nq⟩
    · obtain rfl : k = n := by omega
      obtain rfl := HYES.out hok.out
      clear HNO HYES hok
      go_wp2
      go_ret
      exact ⟨rfl, below_drewN (Below.refl _ _) q⟩
def sameP (win draw loss : Int) (ag : Bool) (n : Nat) (g : Nat → Int) (win' draw' loss' : Int) (ag' : Bool) (n' : Nat) (g' : Nat → Int) : Prop :=
  (win = win' ∧ draw = draw' ∧ loss = loss' ∧ ag = ag') ∧ sameL n n' g g'
def Box5 (w : World) (B : Nat) (a b c d f : Value) : Prop := w.cell? ⟨B, 0, none⟩ = some a ∧ w.cell? ⟨B, 1, none⟩ = some b ∧ w.cell? ⟨B, 2, none⟩ = some c ∧ w.cell? ⟨B, 3, none⟩ = some d ∧ w.cell? ⟨B, 4, none⟩ = some f
theorem Box5.below {w w2 : World} {B : Nat} {a b c d f : Value} (k : Box5 w B a b c d f) (h : Below w.heap.size w w2) : Box5 w2 B a b c d f := cells5_below k h
theorem Box5.made (w : World) (t : TypeId) {a b c d f : Value} : Box5 (w.alloc (.cells #[a, b, c, d, f] t)) w.heap.size a b c d f := cells5 (Below.refl _ _)
end Go.Proofs.YteciobkjfmddcaaGreatDoor
set_option linter.unusedVariables false
namespace Go.Proofs.YteciobkjfmddcaaGreatDoor
open Go.RowKit

set_option maxRecDepth 100000 in
set_option maxHeartbeats 2000000 in
theorem sameReason_impl (k f o k' f' o' : Int) (v v' : Value) (n n' : Nat) (g g' : Nat → Int) (R : Bool) (w : World) (hR : R = true ↔ (k = k' ∧ f = f' ∧ o = o' ∧ n = n' ∧ ∀ i, i < n → g i = g' i)) (h : IntRow w v n g) (h' : IntRow w v' n' g') :
    Calls Tryz.prog 11 #[.agg #[.int .i64 k, v, .int .i64 f, .int .i64 o], .agg #[.int .i64 k', v', .int .i64 f', .int .i64 o']] w fun e w' => e = .returned (.bool R) ∧ Below w.heap.size w w' := by
  obtain ⟨va, vc, rfl, hv63, _⟩ := h.form
  obtain ⟨va', vc', rfl, hv63', _⟩ := h'.form
  have ba := (Below.refl w.heap.size w).alloc (Nat.le_refl _) (.cells #[.int .i64 k, .slice va n vc, .int .i64 f, .int .i64 o] 33)
  have bb := (Below.refl (w.alloc (.cells #[.int .i64 k, .slice va n vc, .int .i64 f, .int .i64 o] 33)).heap.size (w.alloc (.cells #[.int .i64 k, .slice va n vc, .int .i64 f, .int .i64 o] 33))).alloc (Nat.le_refl _) (.cells #[.int .i64 k', .slice va' n' vc', .int .i64 f', .int .i64 o'] 33)
  have B1 := Lib.hid ((BoxN.made (Below.refl _ (w.alloc (.cells #[.int .i64 k, .slice va n vc, .int .i64 f, .int .i64 o] 33))) (B := w.heap.size) rfl).below bb)
  have B2 := Lib.hid (BoxN.made (Below.refl _ ((w.alloc (.cells #[.int .i64 k, .slice va n vc, .int .i64 f, .int .i64 o] 33)).alloc (.cells #[.int .i64 k', .slice va' n' vc', .int .i64 f', .int .i64 o'] 33))) (B := w.heap.size + 1) (by simp))
  have HB := Lib.hid (ba.trans (bb.mono ba.size))
  obtain ⟨U, hU⟩ : ∃ U, (w.alloc (.cells #[.int .i64 k, .slice va n vc, .int .i64 f, .int .i64 o] 33)).alloc (.cells #[.int .i64 k', .slice va' n' vc', .int .i64 f', .int .i64 o'] 33) = U := ⟨_, rfl⟩
  rw [hU] at B1 B2 HB
  have G1 := Lib.hid (h.below HB.out (Nat.le_refl _))
  have G2 := Lib.hid (h'.below HB.out (Nat.le_refl _))
  clear ba bb h h'
  have hlt1 := B1.out.1
  have hlt2 := B2.out.1
  have d0 := B1.out.2 0 _ rfl
  have d1 := B1.out.2 1 _ rfl
  have d2 := B1.out.2 2 _ rfl
  have d3 := B1.out.2 3 _ rfl
  have e0 := B2.out.2 0 _ rfl
  have e1 := B2.out.2 1 _ rfl
  have e2 := B2.out.2 2 _ rfl
  have e3 := B2.out.2 3 _ rfl
  have HN := Lib.hid (boolF hR)
  have HY := Lib.hid (boolT hR)
  have HR2 := Lib.hid hR
  clear hR
  go_enter Tryz.func11, Tryz.ntmps11
  by_cases hk : k = k'
  case neg =>
    obtain rfl := HN.out (fun h => hk h.1)
    have g1 : (k == k') = false := beq_eq_false_iff_ne.2 hk
    clear HR2
    go_wp2
    go_ret
    exact ⟨rfl, HB.out⟩
  subst hk
  by_cases hf : f = f'
  case neg =>
    obtain rfl := HN.out (fun h => hf h.2.1)
    have g2 : (f == f') = false := beq_eq_false_iff_ne.2 hf
    clear HR2
    go_wp2
    go_ret
    exact ⟨rfl, HB.out⟩
  subst hf
  by_cases ho : o = o'
  case neg =>
    obtain rfl := HN.out (fun h => ho h.2.2.1)
    have g3 : (o == o') = false := beq_eq_false_iff_ne.2 ho
    clear HR2
    go_wp2
    go_ret
    exact ⟨rfl, HB.out⟩
  subst ho
  have hR3 : R = true ↔ sameL n n' g g' := by
    rw [HR2.out]
    exact ⟨fun h => h.2.2.2, fun h => ⟨rfl, rfl, rfl, h⟩⟩
  have CE := Lib.hid (slicesEqual_int (.slice va n vc) (.slice va' n' vc') n n' g g' R U hR3 G1.out G2.out)
  clear hR3 HR2 HN HY G1 G2
  go_wp2_with fail
  refine CE.out.mono ?_
  rintro e w2 ⟨rfl, b2⟩
  have HE := Lib.hid (HB.out.trans (b2.mono HB.out.size))
  clear hU b2 CE
  go_wp2
  go_ret
  exact ⟨rfl, HE.out⟩
end Go.Proofs.YteciobkjfmddcaaGreatDoor
set_option linter.unusedVariables false
namespace Go.Proofs.YteciobkjfmddcaaGreatDoor

theorem iface_var {P : Program} {W : World} {nm name : String} {d : DataW Unit} {rest : List (String × DataW Unit)} {g : Nat} {t : TypeId} {ms : Array (String × TypeId)}
    (hg : P.globalNamed nm = some g) (hty : (P.globals[g]?).map (·.type) = some t) (hi : P.underlying t = some (.interface ms))
    (h : laidMet P ((nm, .iface name d) :: rest) W) : ∃ tp p, W.var? P nm = some #[.iface tp p] := by
  obtain ⟨ps, ⟨g', t', cs, fuel, p, q, hg', ht', hvar, hd, _, _⟩, _⟩ := h
  obtain rfl := Option.some.inj (hg.symm.trans hg')
  obtain rfl := Option.some.inj (hty.symm.trans ht')
  obtain ⟨f', u, v, hcs, _, _⟩ := iface_of_trod hi hd
  refine ⟨u, v, ?_⟩
  rw [hvar]
  congr 1
  apply Array.ext'
  rw [hcs]
def valsOf : DataW Unit → Array Value
  | .agg ds => (ds.map fun
      | .lit (.int k n) => Value.int k n
      | _ => undef).toArray
  | _ => #[]
def textOf : DataW Unit → ByteArray
  | .iface _ (.ptr (.agg [.lit (.string b)])) => ⟨b.toArray⟩
  | _ => ByteArray.empty
def putAt (h : Array Obj) (g : Nat) (cs : Array Value) : Array Obj := h.modify g fun
    | .cells _ t frozen => .cells cs t frozen
    | o => o
end Go.Proofs.YteciobkjfmddcaaGreatDoor
