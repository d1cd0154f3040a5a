/-
  Packed: RulesMake, TyBnd, CalMake, CircMarks, Rounds3, Rounds4, RoundPlain, ErrIs.
-/
import Derived.Deep.RegionHeld3
import Derived.Deep.RegionLaw
import Derived.Test.YtcbpgbiannpfpaaDoorChecked
import Derived.WalkKit
import Derived.LaidEql
import Derived.Stop.Asserts
import Derived.RowKitTokens
import Derived.ChangeVars
import Derived.Stop.LaidErr
import Derived.Lib.Hide
import Derived.Test.YtcbpgbiannpfpaaDoorQ1
import Derived.Test.YtcbpgbiannpfpaaDoorQ2
import Derived.Test.YtcbpgbiannpfpaaDoorQ3
import Derived.Test.YtcbpgbiannpfpaaDoorQ4
import Derived.Test.YtcbpgbiannpfpaaDoorQ6
import Derived.Test.YtcbpgbiannpfpaaDoorQ7
import Derived.Test.YtcbpgbiannpfpaaDoorQ10
set_option linter.unusedVariables false
namespace Go.Proofs.YtcbpgbiannpfpaaDoor
open Go.RowKit

theorem Cur.belowW {B base : Nat} {a : Option Addr} {len cap : Nat} {g : Nat → Nat} {w w' : World} (h : Cur B a len cap g w) (hb : Below base w w') (hB : B < base) : Cur B a len cap g w' := by
  obtain ⟨i, x, hh, hi⟩ := h.blk
  refine ⟨⟨i, x, (hb.block B hB).trans hh, hi⟩, fun h0 => ?_, h.low, h.small, h.fits⟩
  obtain ⟨b, off, h1, h2⟩ := h.row h0
  have := h.low h0 b off h1
  exact ⟨b, off, h1, fun i hi => (hb.cell (p := ⟨b, off + i, none⟩) (show b < base by omega)).trans (h2 i hi)⟩
theorem Cur.ltW {B : Nat} {a : Option Addr} {len cap : Nat} {g : Nat → Nat} {w : World} (h : Cur B a len cap g w) : B < w.heap.size := by
  obtain ⟨i, x, hh, hi⟩ := h.blk
  exact (Array.getElem?_eq_some_iff.1 hh).1
def drawnL (L : List Int) : Prop := L.head? = some 1 ∧ (∀ i, 0 < i → i < L.length → 2 ≤ getI L i ∧ getI L i ≤ 7) ∧ ∀ i j, i < j → j < L.length → getI L i ≠ getI L j
theorem getI_last (L : List Int) (x : Int) : getI (L ++ [x]) L.length = x := by simp [getI]
theorem getI_left (L : List Int) (x : Int) (i : Nat) (h : i < L.length) : getI (L ++ [x]) i = getI L i := by
  simp only [getI, List.getD_eq_getElem?_getD]; rw [List.getElem?_append_left h]
theorem drawnL.push {L : List Int} {x : Int} (h : drawnL L) (hx : 2 ≤ x ∧ x ≤ 7) (hn : ¬ hasP (getI L) x L.length) : drawnL (L ++ [x]) := by
  obtain ⟨h1, h2, h3⟩ := h
  have hl : 0 < L.length := by cases L with
    | nil => simp at h1
    | cons _ _ => simp
  refine ⟨by rw [List.head?_append]; rw [h1]; rfl, fun i h0 hi => ?_, fun i j hij hj => ?_⟩
  · simp only [List.length_append, List.length_cons, List.length_nil] at hi
    by_cases e : i = L.length
    · rw [e, getI_last]; exact hx
    · rw [getI_left _ _ _ (by omega)]; exact h2 i h0 (by omega)
  · simp only [List.length_append, List.length_cons, List.length_nil] at hj
    rw [getI_left _ _ i (by omega)]
    by_cases e : j = L.length
    · rw [e, getI_last]; exact fun he => hn ⟨i, by omega, he⟩
    · rw [getI_left _ _ j (by omega)]; exact h3 i j hij (by omega)
def RulesGood (win : Int) (L : List Int) : Prop := (win = 2 ∨ win = 3) ∧ ∃ K, L = K ++ [8] ∧ drawnL K ∧ K.length ≤ 4
def RulesDrawn (B : Nat) (a : Option Addr) (len cap : Nat) (g : Nat → Nat) (w : World) (e : Ending) (w' : World) : Prop :=
  ∃ v win ag L, e = .returned (.agg #[.int .i64 win, .int .i64 1, .int .i64 0, v, .bool ag]) ∧ RulesGood win L ∧ w'.ownsRow w.heap.size 3 1 v L.length (L.map (Value.int .i64)) ∧ Cur B a len cap g w' ∧ w.grownBy w' (some B)
theorem World.grownBy_set (w : World) (B j : Nat) (z : Value) : w.grownBy (w.setCell ⟨B, j, none⟩ z) (some B) := grown_set w B j z
theorem grown_to {w0 w w' : World} {B : Nat} (h : w0.grownBy w (some B)) (hb : Below w.heap.size w w') : w0.grownBy w' (some B) :=
  grown_trans h ⟨hb.os, hb.tape, hb.output, hb.size, fun k hk _ => hb.block k hk⟩
section
variable {B : Nat} {a : Option Addr} {len cap : Nat} {g : Nat → Nat} {w0 : World} {D : Nat} {win : Int} {ag : Bool} {L : List Int} {w w' : World}
end
def RulesIs (w : World) (e : Ending) (w' : World) : Prop :=
  ∃ v win ag L, e = .returned (.agg #[.int .i64 win, .int .i64 1, .int .i64 0, v, .bool ag]) ∧ RulesGood win L ∧ w'.ownsRow w.heap.size 3 1 v L.length (L.map (Value.int .i64)) ∧ Below w.heap.size w w'
end Go.Proofs.YtcbpgbiannpfpaaDoor
set_option linter.unusedVariables false
namespace Go.Proofs.YtcbpgbiannpfpaaDoor
open Go.RowKit

theorem OwN.rdA {T : Ty} {w : World} {lo hi : Nat} {cs : List Value} {d : T.D} (h : OwN T w lo hi cs d) : RdA T w cs d := h.rd.all h.hi_le
def Bnd (T : Ty) (c : Nat) : Prop := ∀ d, T.mks d ≤ c * (T.wt d + 1)
theorem bnd_int : Bnd tInt 1 := fun d => by show 1 ≤ 1 * (0 + 1); omega
theorem bnd_bool : Bnd tBool 1 := fun d => by show 1 ≤ 1 * (0 + 1); omega
theorem bnd_str : Bnd tStr 1 := fun d => by show 1 ≤ 1 * (d.size + 1); omega
theorem bnd_two {a b : Ty} {ca cb : Nat} (ha : Bnd a ca) (hb : Bnd b cb) : Bnd (tTwo a b) (ca + cb) := fun d => by
  have h1 := ha d.1
  have h2 := hb d.2
  show a.mks d.1 + b.mks d.2 ≤ (ca + cb) * (a.wt d.1 + b.wt d.2 + 1)
  have h3 : ca * (a.wt d.1 + 1) ≤ ca * (a.wt d.1 + b.wt d.2 + 1) := Nat.mul_le_mul_left _ (by omega)
  have h4 : cb * (b.wt d.2 + 1) ≤ cb * (a.wt d.1 + b.wt d.2 + 1) := Nat.mul_le_mul_left _ (by omega)
  rw [Nat.add_mul]
  omega
theorem bnd_sl {t : TypeId} {e : Ty} {c : Nat} (h : Bnd e c) : Bnd (tSl t e) c := fun d => by
  have key : ∀ L : List e.D, (L.map e.mks).sum ≤ c * (L.length + (L.map e.wt).sum) := by
    intro L
    induction L with
    | nil => exact Nat.zero_le _
    | cons x L ih =>
      have := h x
      rw [List.map_cons, List.sum_cons, List.map_cons, List.sum_cons, List.length_cons]
      have e1 : c * (L.length + 1 + (e.wt x + (L.map e.wt).sum)) = c * (e.wt x + 1) + c * (L.length + (L.map e.wt).sum) := by rw [← Nat.mul_add]; congr 1; omega
      omega
  exact Nat.le_trans (key d) (Nat.mul_le_mul_left _ (Nat.le_succ _))
theorem Bnd.le {T : Ty} {c : Nat} (h : Bnd T c) {d : T.D} (hw : T.wt d ≤ 1048576) (hc : c ≤ 1000) : T.mks d ≤ 2000000000 := by
  have h1 := h d
  have h2 : c * (T.wt d + 1) ≤ 1000 * 1048577 := Nat.mul_le_mul hc (by omega)
  omega
end Go.Proofs.YtcbpgbiannpfpaaDoor
set_option linter.unusedVariables false
namespace Go.Proofs.YtcbpgbiannpfpaaDoor
open Go.RowKit

def mkC (t f u : Int) : tClosed.D := (t, f, u)
def ccell (c : tClosed.D) : List Value := [.int .i64 (clT c), .int .i64 (clF c), .int .i64 (clU c)]
def ccells (C : ClosL) : List Value := List.flatMap (α := tClosed.D) ccell C
theorem ccells_push (C : ClosL) (x : tClosed.D) : ccells (C ++ [x]) = ccells C ++ ccell x := by simp [ccells]
theorem clos_rec : ∀ (C : List tClosed.D) (i : Nat), i < C.length → ∀ j u, (atClosed C i).cells[j]? = some u → (ccells C)[i * 3 + j]? = some u
  | [], i, hi, _, _, _ => absurd hi (Nat.not_lt_zero _)
  | c :: C, 0, hi, j, u, hu => by
    have hu : ([.int .i64 (clT c), .int .i64 (clF c), .int .i64 (clU c)] : List Value)[j]? = some u := hu
    show (Value.int .i64 (clT c) :: Value.int .i64 (clF c) :: Value.int .i64 (clU c) :: ccells C)[0 * 3 + j]? = _
    match j, hu with
    | 0, h => simpa using h
    | 1, h => simpa using h
    | 2, h => simpa using h
    | n + 3, h => simp at h
  | c :: C, i + 1, hi, j, u, hu => by
    have h := clos_rec C i (Nat.lt_of_succ_lt_succ hi) j u hu
    show (Value.int .i64 (clT c) :: Value.int .i64 (clF c) :: Value.int .i64 (clU c) :: ccells C)[(i + 1) * 3 + j]? = _
    rw [show (i + 1) * 3 + j = (i * 3 + j) + 1 + 1 + 1 by omega]
    simpa using h
theorem clos_rd {w : World} {base : Nat} {e : TypeId} {v : Value} {C : ClosL} (h : w.ownsRow base e 3 v (List.length (α := tClosed.D) C) (ccells C)) (hn : List.length (α := tClosed.D) C ≤ 9223372036854775807) : RdA tClosedS w [v] C :=
  rd_ClosedS.2 (ClosedRow.of_owns h hn (clos_rec C))
theorem owns_slice {w : World} {base k n : Nat} {e : TypeId} {v : Value} {xs : List Value} (h : w.ownsRow base e k v n xs) : ∃ a c, v = .slice a n c := by
  rcases h.2 with ⟨rfl, h0⟩ | ⟨g, cap, cur, rfl, _⟩
  · exact ⟨none, 0, by rw [h0]⟩
  · exact ⟨_, _, rfl⟩
theorem okC_push {n t f u : Int} {C : ClosL} (h : ∀ c ∈ (C : List tClosed.D), okC n c) (ht : 0 ≤ t ∧ t < n) (hf : 0 ≤ f ∧ f ≤ 60) (hu : f ≤ u ∧ u ≤ 60) : ∀ c ∈ ((C ++ [mkC t f u]) : List tClosed.D), okC n c := fun c hc => by
  rcases List.mem_append.1 hc with e | e
  · exact h c e
  · rw [List.mem_singleton] at e
    subst e
    exact ⟨ht, hf, hu⟩
def SeaW (B : Nat) (a : Option Addr) (len cap : Nat) (g : Nat → Nat) (w0 : World) (hi D : Nat) (vr : Value) (DD : List PairL) (rest : Int) (vd : Value) (L : List Int) (m : Nat) (vc : Value) (C : ClosL) (w : World) : Prop :=
  Cur B a len cap g w ∧ w.heap[D]? = some (.cells #[vr, vd, .int .i64 rest, vc] 27 (0, 0)) ∧
    w.heap[w0.heap.size]? = some (.cells #[.slice none 0 0, .slice none 0 0, .int .i64 0, .slice none 0 0] 27 (0, 0)) ∧
    OwN tPairSS w (w0.heap.size + 1) hi [vr] DD ∧ w.ownsRow (D + 1) 3 1 vd L.length (L.map (Value.int .i64)) ∧ w.ownsRow m 66 3 vc (List.length (α := tClosed.D) C) (ccells C) ∧
    (hi ≤ D ∧ w0.heap.size + 1 ≤ D ∧ D < m ∧ m ≤ w.heap.size ∧ ∀ q, vd.ownBlock = some q → q < m) ∧ w0.grownBy w (some B) ∧ B < w0.heap.size
section
variable {B : Nat} {a : Option Addr} {len cap : Nat} {g : Nat → Nat} {w0 : World} {hi D : Nat} {vr : Value} {DD : List PairL} {rest : Int} {vd : Value} {L : List Int} {m : Nat} {vc : Value} {C : ClosL} {w w' : World}
theorem SeaW.cur (h : SeaW B a len cap g w0 hi D vr DD rest vd L m vc C w) : Cur B a len cap g w := h.1
theorem SeaW.size (h : SeaW B a len cap g w0 hi D vr DD rest vd L m vc C w) : m ≤ w.heap.size := h.2.2.2.2.2.2.1.2.2.2.1
theorem SeaW.owns (h : SeaW B a len cap g w0 hi D vr DD rest vd L m vc C w) : w.ownsRow m 66 3 vc (List.length (α := tClosed.D) C) (ccells C) := h.2.2.2.2.2.1
theorem SeaW.cell (h : SeaW B a len cap g w0 hi D vr DD rest vd L m vc C w) (j : Nat) : w.cell? ⟨D, j, none⟩ = #[vr, vd, .int .i64 rest, vc][j]? := cell_of_row w D j _ _ (0, 0) h.2.1
theorem SeaW.free (h : SeaW B a len cap g w0 hi D vr DD rest vd L m vc C w) (j : Nat) : w.frozen? ⟨D, j, none⟩ = false := frozen_of_row w D j _ _ h.2.1
theorem SeaW.drew (h : SeaW B a len cap g w0 hi D vr DD rest vd L m vc C w) : SeaW B a len cap g w0 hi D vr DD rest vd L m vc C w.drew := by
  obtain ⟨h1, h2, h3, h4, h5, h6, h7, h8, h9⟩ := h
  exact ⟨⟨h1.blk, h1.row, h1.low, h1.small, h1.fits⟩, h2, h3, h4, h5, h6, h7, ⟨h8.os, h8.tape, h8.output, h8.size, h8.block⟩, h9⟩
theorem SeaW.below (hb : Below w.heap.size w w') (h : SeaW B a len cap g w0 hi D vr DD rest vd L m vc C w) : SeaW B a len cap g w0 hi D vr DD rest vd L m vc C w' := by
  obtain ⟨h1, h2, h3, h4, h5, h6, ⟨i1, i2, i3, i4, i5⟩, h8, h9⟩ := h
  have hs := h8.size
  exact ⟨h1.belowW hb (by omega), (hb.block D (by omega)).trans h2, (hb.block _ (by omega)).trans h3, h4.below hb, owns_below h5 hb (Nat.le_refl _), owns_below h6 hb (Nat.le_refl _), ⟨i1, i2, i3, Nat.le_trans i4 hb.size, i5⟩, grown_to h8 hb, h9⟩
theorem SeaW.alloc (o : Obj) (h : SeaW B a len cap g w0 hi D vr DD rest vd L m vc C w) : SeaW B a len cap g w0 hi D vr DD rest vd L m vc C (w.alloc o) := SeaW.below ((Below.refl _ _).alloc (Nat.le_refl _) _) h
theorem SeaW.drawn (hc : Cur B a len cap g w') (hg : w.grownBy w' (some B)) (h : SeaW B a len cap g w0 hi D vr DD rest vd L m vc C w) : SeaW B a len cap g w0 hi D vr DD rest vd L m vc C w' := by
  obtain ⟨h1, h2, h3, h4, h5, h6, ⟨i1, i2, i3, i4, i5⟩, h8, h9⟩ := h
  have hs := h8.size
  have kp : ∀ {b : Nat} {e : TypeId} {k : Nat} {v : Value} {n : Nat} {xs : List Value}, w.ownsRow b e k v n xs → w0.heap.size < b → v.ownBlock = none ∨ v.ownBlock ≠ some B := fun h hb => by
    rename_i v _ _
    cases hv : v.ownBlock with
    | none => exact .inl rfl
    | some q => exact .inr fun e => by have := (h.lt q hv).1; simp at e; omega
  refine ⟨hc, (hg.block D (by omega) (by intro e; simp at e; omega)).trans h2, (hg.block _ (by omega) (by intro e; simp at e; omega)).trans h3, h4.frame (fun q h1 h2 => hg.block q (by omega) (by intro e; simp at e; omega)) hg.size, h5.kept hg ?_, h6.kept hg ?_, ⟨i1, i2, i3, Nat.le_trans i4 hg.size, i5⟩, grown_trans h8 hg, h9⟩
  · cases hv : vd.ownBlock with
    | none => exact .inl rfl
    | some q => exact .inr fun e => by have := (h5.lt q hv).1; simp at e; omega
  · cases hv : vc.ownBlock with
    | none => exact .inl rfl
    | some q => exact .inr fun e => by have := (h6.lt q hv).1; simp at e; omega
theorem SeaW.day {x : Int} {v' : Value} (h : SeaW B a len cap g w0 hi D vr DD rest vd L m (.slice none 0 0) [] w) (o' : w'.ownsRow (D + 1) 3 1 v' (L.length + 1) (L.map (Value.int .i64) ++ [.int .i64 x])) (hg : w.grownBy w' vd.ownBlock) :
    SeaW B a len cap g w0 hi D vr DD rest v' (L ++ [x]) (w'.setCell ⟨D, 1, none⟩ v').heap.size (.slice none 0 0) [] (w'.setCell ⟨D, 1, none⟩ v') ∧ w'.frozen? ⟨D, 1, none⟩ = false ∧ w'.cell? ⟨D, 1, none⟩ = some vd := by
  obtain ⟨h1, h2, h3, h4, h5, h6, ⟨i1, i2, i3, i4, i5⟩, h8, h9⟩ := h
  have hs := h8.size
  have hvd : ∀ q, vd.ownBlock = some q → D + 1 ≤ q := fun q hq => (h5.lt q hq).1
  have hD : w'.heap[D]? = _ := (hg.block D (by omega) (fun e => by have := hvd D e.symm; omega)).trans h2
  have hbel : Below w0.heap.size w (w'.setCell ⟨D, 1, none⟩ v') := ((Below.refl _ _).grown hg hs (fun k hk => by have := hvd k hk; omega)).setCell (by show w0.heap.size ≤ D; omega) _
  have hz : w.heap.size ≤ (w'.setCell ⟨D, 1, none⟩ v').heap.size := hbel.size
  have ho2 : (w'.setCell ⟨D, 1, none⟩ v').ownsRow (D + 1) 3 1 v' (L.length + 1) (L.map (Value.int .i64) ++ [.int .i64 x]) := o'.kept (World.grownBy_set w' D 1 v') (by
    cases hv : v'.ownBlock with
    | none => exact .inl rfl
    | some q => exact .inr fun e => by have := (o'.lt q hv).1; simp at e; omega)
  refine ⟨⟨h1.belowW hbel h9, ?_, ?_, ?_, ?_, ⟨rfl, .inl ⟨rfl, rfl⟩⟩, ⟨i1, i2, by omega, Nat.le_refl _, fun q hq => (ho2.lt q hq).2⟩, ?_, h9⟩, frozen_of_row w' D 1 _ _ hD, cell_of_row w' D 1 _ _ (0, 0) hD⟩
  · rw [heap_setCell_same w' D 1 _ _ _ hD]; rfl
  · rw [Below.heap_setCell _ _ _ _ (by show w0.heap.size ≠ D; omega), hg.block _ (by omega) (fun e => by have := hvd _ e.symm; omega)]; exact h3
  · refine h4.frame (fun q k1 k2 => ?_) hz
    rw [Below.heap_setCell _ _ _ _ (by show q ≠ D; omega)]
    exact hg.block q (by omega) (fun e => by have := hvd _ e.symm; omega)
  · simpa using ho2
  · exact ⟨hbel.os.trans h8.os, hbel.tape.trans h8.tape, hbel.output.trans h8.output, Nat.le_trans hs hbel.size, fun k hk hne => (hbel.block k hk).trans (h8.block k hk hne)⟩
theorem SeaW.clos {o : Obj} {x : tClosed.D} {v' : Value} {ys : List Value} (hy : ys = ccell x) (hg : (w.alloc o).grownBy w' vc.ownBlock) (o' : w'.ownsRow m 66 3 v' (List.length (α := tClosed.D) C + 1) (ccells C ++ ys)) (h : SeaW B a len cap g w0 hi D vr DD rest vd L m vc C w) :
    SeaW B a len cap g w0 hi D vr DD rest vd L m v' (C ++ [x]) (w'.setCell ⟨D, 3, none⟩ v') ∧ w'.frozen? ⟨D, 3, none⟩ = false ∧ w'.cell? ⟨D, 3, none⟩ = some vc := by
  subst hy
  obtain ⟨h1, h2, h3, h4, h5, h6, ⟨i1, i2, i3, i4, i5⟩, h8, h9⟩ := SeaW.alloc o h
  have hv : ∀ q, vc.ownBlock = some q → m ≤ q := fun q hq => (h6.lt q hq).1
  generalize w.alloc o = w at *
  have hs := h8.size
  have hD : w'.heap[D]? = _ := (hg.block D (by omega) (fun e => by have := hv D e.symm; omega)).trans h2
  have hbel : Below w0.heap.size w (w'.setCell ⟨D, 3, none⟩ v') := ((Below.refl _ _).grown hg hs (fun k hk => by have := hv k hk; omega)).setCell (by show w0.heap.size ≤ D; omega) _
  have hz : w.heap.size ≤ (w'.setCell ⟨D, 3, none⟩ v').heap.size := hbel.size
  refine ⟨⟨h1.belowW hbel h9, ?_, ?_, ?_, ?_, ?_, ⟨i1, i2, i3, by omega, i5⟩, ?_, h9⟩, frozen_of_row w' D 3 _ _ hD, cell_of_row w' D 3 _ _ (0, 0) hD⟩
  · rw [heap_setCell_same w' D 3 _ _ _ hD]; rfl
  · rw [Below.heap_setCell _ _ _ _ (by show w0.heap.size ≠ D; omega), hg.block _ (by omega) (fun e => by have := hv _ e.symm; omega)]; exact h3
  · refine h4.frame (fun q k1 k2 => ?_) hz
    rw [Below.heap_setCell _ _ _ _ (by show q ≠ D; omega)]
    exact hg.block q (by omega) (fun e => by have := hv _ e.symm; omega)
  · refine (h5.kept hg ?_).kept (World.grownBy_set w' D 3 v') ?_
    · cases hd : vd.ownBlock with
      | none => exact .inl rfl
      | some q => exact .inr fun e => by have := i5 q hd; have := hv q e.symm; omega
    · cases hd : vd.ownBlock with
      | none => exact .inl rfl
      | some q => exact .inr fun e => by have := (h5.lt q hd).1; simp at e; omega
  · rw [ccells_push]
    have h10 := o'.kept (World.grownBy_set w' D 3 v') (by
      cases hd : v'.ownBlock with
      | none => exact .inl rfl
      | some q => exact .inr fun e => by have := (o'.lt q hd).1; simp at e; omega)
    simpa using h10
  · exact ⟨hbel.os.trans h8.os, hbel.tape.trans h8.tape, hbel.output.trans h8.output, Nat.le_trans hs hbel.size, fun k hk hne => (hbel.block k hk).trans (h8.block k hk hne)⟩
theorem SeaW.fin (h : SeaW B a len cap g w0 hi D vr DD rest vd L m vc C w) (ht : Touch w0.heap.size (w0.heap.size + 1) w w') :
    OwN tPairSS w' (w0.heap.size + 1) hi [vr] DD ∧ w'.ownsRow (w0.heap.size + 1) 3 1 vd L.length (L.map (Value.int .i64)) ∧ w'.ownsRow (w0.heap.size + 1) 66 3 vc (List.length (α := tClosed.D) C) (ccells C) ∧ Cur B a len cap g w' ∧ w0.grownBy w' (some B) := by
  obtain ⟨h1, h2, h3, h4, h5, h6, ⟨i1, i2, i3, i4, i5⟩, h8, h9⟩ := h
  have hs := h8.size
  have hb : Below w0.heap.size w w' := ⟨ht.os, ht.tape, ht.output, ht.size, fun k hk => ht.block k (by omega) (by omega)⟩
  have hg : w.grownBy w' (some w0.heap.size) := ⟨ht.os, ht.tape, ht.output, ht.size, fun k hk hne => ht.block k hk (by have : k ≠ w0.heap.size := fun e => hne (by rw [e]); omega)⟩
  refine ⟨h4.touch ht (.inr (Nat.le_refl _)), owns_mono (h5.kept hg ?_) (by omega), owns_mono (h6.kept hg ?_) (by omega), h1.belowW hb h9, ⟨hb.os.trans h8.os, hb.tape.trans h8.tape, hb.output.trans h8.output, Nat.le_trans hs hb.size, fun k hk hne => (hb.block k hk).trans (h8.block k hk hne)⟩⟩
  · cases hv : vd.ownBlock with
    | none => exact .inl rfl
    | some q => exact .inr fun e => by have := (h5.lt q hv).1; simp at e; omega
  · cases hv : vc.ownBlock with
    | none => exact .inl rfl
    | some q => exact .inr fun e => by have := (h6.lt q hv).1; simp at e; omega
end
def DayL (L : List Int) (day : Int) : Prop := (∀ i, i < L.length → (1 ≤ getI L i ∧ getI L i ≤ day) ∧ (0 < i → getI L (i - 1) < getI L i)) ∧ 0 ≤ day ∧ day ≤ 3 * (L.length : Int)
theorem DayL.push {L : List Int} {day y : Int} (h : DayL L day) (h0 : 0 ≤ y) (h2 : y ≤ 2) : DayL (L ++ [day + 1 + y]) (day + 1 + y) := by
  obtain ⟨h1, h3, h4⟩ := h
  refine ⟨fun i hi => ?_, by omega, by simp; omega⟩
  simp only [List.length_append, List.length_cons, List.length_nil] at hi
  by_cases e : i < L.length
  · rw [getI_left L _ i e]
    refine ⟨by have := (h1 i e).1; omega, fun h0 => ?_⟩
    rw [getI_left L _ (i - 1) (by omega)]
    exact (h1 i e).2 h0
  · obtain rfl : i = L.length := by omega
    rw [getI_last]
    refine ⟨by omega, fun h0 => ?_⟩
    rw [getI_left L _ _ (by omega)]
    have := (h1 (L.length - 1) (by omega)).1
    omega
theorem DayL.days {L : List Int} {day : Int} (h : DayL L day) (hl : L.length ≤ 17) : daysP L := fun i hi => by
  have h1 := h.1 i hi
  have h2 := h.2.2
  exact ⟨by omega, h1.2⟩
def SeaDrawn (B : Nat) (a : Option Addr) (len cap : Nat) (g : Nat → Nat) (w : World) (e : Ending) (w' : World) : Prop :=
  ∃ (n hi : Nat) (vr vd vc : Value) (rest : Int) (L : List Int) (C : ClosL), e = .returned (.tuple #[.int .i64 n, .agg #[vr, vd, .int .i64 rest, vc]]) ∧ ((2 ≤ n ∧ n ≤ 6) ∧ (1 ≤ rest ∧ rest ≤ 3) ∧ daysP L ∧ L.length ≤ 17 ∧ closedP n C) ∧
    OwN tPairSS w' (w.heap.size + 1) hi [vr] (circL n) ∧ w'.ownsRow (w.heap.size + 1) 3 1 vd L.length (L.map (Value.int .i64)) ∧ w'.ownsRow (w.heap.size + 1) 66 3 vc (List.length (α := tClosed.D) C) (ccells C) ∧ Cur B a len cap g w' ∧ w.grownBy w' (some B)
set_option maxRecDepth 100000 in
set_option maxHeartbeats 4000000 in
theorem l10Draw_any (B : Nat) (a : Option Addr) (len cap : Nat) (g : Nat → Nat) (w : World) (hc : Cur B a len cap g w) :
    Calls Tryd.prog 23 #[.pointer (some ⟨B, 0, none⟩)] w (SeaDrawn B a len cap g w) := by
  obtain ⟨i0, hi, hz0, hz1, hz2⟩ := info_parts Tryd.infoI
  obtain ⟨j0, ji, jz0, jz1, jz2⟩ := info_parts Tryd.infoClosed
  have hlB := hc.ltW
  have L1 := Lib.hid (fun w1 hc (m : Nat) (h1 : 0 < m) (h2 : m ≤ 256) => l01Below_small B a len cap g m w1 hc h1 h2)
  have HC := Lib.hid hc
  clear hc
  go_enter Tryd.func23, Tryd.ntmps23
  go_wp2_with fail
  refine (L1.out _ (HC.out.belowW ((Below.refl _ w).alloc (Nat.le_refl _) _) hlB) 5 (by omega) (by omega)).mono ?_
  rintro e w1 ⟨x, hx, rfl, c1, g1⟩
  have G1 : Hid (w.grownBy w1 (some B)) := grown_trans (World.grownBy_alloc w _ _) g1
  have H1 : Hid (w1.heap[w.heap.size]? = some (.cells #[.slice none 0 0, .slice none 0 0, .int .i64 0, .slice none 0 0] 27 (0, 0))) := by
    show _ = _
    rw [g1.block _ (by simp) (by intro e; simp at e; omega)]; exact heap_alloc_new w _
  have C1 := Lib.hid c1
  have F1 : Hid (w.heap.size < w1.heap.size) := by have := g1.size; simp at this; show w.heap.size < w1.heap.size; omega
  clear c1 g1 HC
  obtain ⟨n, hn⟩ : ∃ n : Nat, 2 + (x : Int) = (n : Int) := ⟨2 + x, by omega⟩
  have hn2 : 2 ≤ n := by omega
  have hn6 : n ≤ 6 := by omega
  have CC : Hid (∀ wa, Calls Tryd.prog 55 #[.int .i64 (n : Int)] wa (MadeT tPairSS (circL n) wa)) := fun wa => by
    have h9 := circleRounds_spec (n : Int) true ⟨fun _ => ⟨by omega, by omega⟩, fun _ => rfl⟩ wa
    rw [show circR true (n : Int) = circL n from by show circL (n : Int).toNat = _; rw [Int.toNat_natCast]] at h9
    exact h9
  go_wp2_with fail
  refine (CC.out _).mono ?_
  rintro e w2 ⟨vr, rfl, ow, b2⟩
  replace ow : OwN tPairSS w2 w1.heap.size w2.heap.size [vr] (circL n) := ow
  obtain ⟨ra, rc, rfl, _⟩ := schedule_form ow.rdA
  obtain ⟨nr, hnr⟩ : ∃ nr, List.length (α := PairL) (circL n) = nr := ⟨_, rfl⟩
  rw [hnr] at ow ⊢
  have OW := Lib.hid (ow.mono (lo' := w.heap.size + 1) F1.out (Nat.le_refl _) (Nat.le_refl _))
  have C2 := Lib.hid (C1.out.belowW b2 C1.out.ltW)
  have H2 : Hid (w2.heap[w.heap.size]? = some (.cells #[.slice none 0 0, .slice none 0 0, .int .i64 0, .slice none 0 0] 27 (0, 0))) := (b2.block _ F1.out).trans H1.out
  have G2 := Lib.hid (grown_to G1.out b2)
  have F2 : Hid (w.heap.size < w2.heap.size) := Nat.lt_of_lt_of_le F1.out b2.size
  clear ow b2 C1 H1 G1 F1 CC hnr
  go_wp2_with fail
  refine (L1.out _ C2.out 3 (by omega) (by omega)).mono ?_
  rintro e w3 ⟨y, hy, rfl, c3, g3⟩
  have OW3 := Lib.hid (OW.out.frame (fun q k1 k2 => g3.block q k2 (by intro e; simp at e; omega)) g3.size)
  have H3 : Hid (w3.heap[w.heap.size]? = some (.cells #[.slice none 0 0, .slice none 0 0, .int .i64 0, .slice none 0 0] 27 (0, 0))) := (g3.block _ F2.out (by intro e; simp at e; omega)).trans H2.out
  have G3 := Lib.hid (grown_trans G2.out g3)
  have C3 := Lib.hid c3
  have F3 : Hid (w2.heap.size ≤ w3.heap.size) := g3.size
  clear c3 g3 OW C2 H2 G2
  have S3 : Hid (SeaW B a len cap g w w2.heap.size w3.heap.size (.slice ra nr rc) (circL n) (1 + (y : Int)) (.slice none 0 0) [] (w3.heap.size + 1) (.slice none 0 0) [] (w3.alloc (.cells #[.slice ra nr rc, .slice none 0 0, .int .i64 (1 + (y : Int)), .slice none 0 0] 27))) := by
    have hb : Below w3.heap.size w3 (w3.alloc (.cells #[.slice ra nr rc, .slice none 0 0, .int .i64 (1 + (y : Int)), .slice none 0 0] 27)) := (Below.refl _ _).alloc (Nat.le_refl _) _
    have f2 := F2.out
    have f3 := F3.out
    exact ⟨C3.out.belowW hb C3.out.ltW, heap_alloc_new w3 _, (hb.block _ (Nat.lt_of_lt_of_le f2 f3)).trans H3.out, OW3.out.below hb, ⟨rfl, .inl ⟨rfl, rfl⟩⟩, ⟨rfl, .inl ⟨rfl, rfl⟩⟩, ⟨f3, Nat.le_trans f2 f3, Nat.lt_succ_self _, by simp, fun q hq => by cases hq⟩, grown_to G3.out hb, hlB⟩
  clear OW3 H3 G3 C3 F2
  go_wp2_with fail
  generalize w3.alloc (.cells #[.slice ra nr rc, .slice none 0 0, .int .i64 (1 + (y : Int)), .slice none 0 0] 27) = w4 at *
  generalize w3.heap.size = D at *
  refine (L1.out _ S3.out.cur 12 (by omega) (by omega)).mono ?_
  rintro e w5 ⟨k0, hk0, rfl, c5, g5⟩
  have S5 := Lib.hid (S3.out.drawn c5 g5)
  clear c5 g5 S3 F3
  have HK : Hid ((2 ≤ n ∧ n ≤ 6) ∧ (1 ≤ 1 + (y : Int) ∧ 1 + (y : Int) ≤ 3)) := by refine ⟨⟨hn2, hn6⟩, ?_, ?_⟩ <;> omega
  have hk0' : 6 + k0 ≤ 17 := by omega
  generalize 1 + (y : Int) = rest at *
  generalize w2.heap.size = hi2 at *
  clear hn hx hy
  go_wp2
  go_loopw [6, 7] (fun dv kv wr => ∃ (j : Nat) (day : Int) (vd : Value) (L : List Int) (m : Nat), kv = .int .i64 j ∧ dv = .int .i64 day ∧ L.length + j ≤ 17 ∧ Hid (DayL L day) ∧ Hid (SeaW B a len cap g w hi2 D (.slice ra nr rc) (circL n) rest vd L m (.slice none 0 0) [] wr)) (fun _ kv _ => (RowKit.intOf kv).toNat)
  case atStart => exact ⟨6 + k0, 0, _, [], _, by simp, rfl, by simpa using hk0', ⟨fun i hi => absurd hi (Nat.not_lt_zero _), by omega, by simp⟩, S5.out⟩
  case round =>
    clear S5
    obtain ⟨j, day, vd, L, m, rfl, rfl, hj, hDL, hS⟩ := hrel
    obtain ⟨_, hd0, hd1⟩ := hDL.out
    by_cases hlt : 0 < j
    · go_wp2_with fail
      refine (L1.out _ hS.out.cur 3 (by omega) (by omega)).mono ?_
      rintro e w6 ⟨z, hz, rfl, c6, g6⟩
      have S6 := Lib.hid (hS.out.drawn c6 g6)
      have HDL := Lib.hid (hDL.out.push (y := (z : Int)) (by omega) (by omega))
      have O6 := Lib.hid S6.out.2.2.2.2.1
      have hm6 := S6.out.2.2.2.2.2.2.1
      obtain ⟨da, dc, rfl⟩ := owns_slice O6.out
      have q6 := S6.out.cell 1
      have q6' : w6.cell? ⟨D, 1, none⟩ = some (.slice da L.length dc) := q6
      have hsz6 : D + 1 ≤ w6.heap.size := by omega
      clear c6 g6 hS hDL q6 hm6
      go_wp2_with (at_builtin; refine wpList_pushL rfl (.tmp 32) (.tmp 34) 24 rfl (D + 1) 3 Tryd.underlying24 hi hz0 hz1 hz2 rfl (by decide) [.int .i64 (day + 1 + (z : Int))] rfl (by intro u hu; simp at hu; subst hu; rfl) rfl rfl O6.out (by unfold maxLen; omega) (by omega) hsz6 ?_; intro gg cc7 w7 o7 g7 at7 lt7; have S7 := Lib.hid (S6.out.day o7 g7); have f7 : w7.frozen? ⟨D, 1, none⟩ = false := S7.out.2.1; have e7 : w7.cell? ⟨D, 1, none⟩ = some (.slice da L.length dc) := S7.out.2.2)
      exact ⟨⟨j - 1, _, _, L ++ [day + 1 + (z : Int)], _, by go_num, rfl, by simp; omega, HDL, Lib.hid S7.out.1⟩, by simp [RowKit.intOf]; omega⟩
    · obtain rfl : j = 0 := by omega
      have HL : Hid (daysP L ∧ L.length ≤ 17) := ⟨hDL.out.days (by omega), by omega⟩
      clear hDL hd0 hd1 hj
      go_wp2_with fail
      refine (L1.out _ hS.out.cur 3 (by omega) (by omega)).mono ?_
      rintro e w6 ⟨k2, hk2, rfl, c6, g6⟩
      have S6 := Lib.hid (hS.out.drawn c6 g6)
      clear c6 g6 hS
      go_wp2
      go_loopw [8] (fun kv wr => ∃ (j : Nat) (vc : Value) (C : ClosL), kv = .int .i64 j ∧ List.length (α := tClosed.D) C + j ≤ 2 ∧ Hid (∀ c ∈ (C : List tClosed.D), okC n c) ∧ Hid (SeaW B a len cap g w hi2 D (.slice ra nr rc) (circL n) rest vd L m vc C wr)) (fun kv _ => (RowKit.intOf kv).toNat)
      case atStart => exact ⟨k2, _, ([] : ClosL), rfl, (by show 0 + k2 ≤ 2; omega), Lib.hid (by intro c hc; cases hc), S6⟩
      case round =>
        clear S6
        obtain ⟨j, vc, C, rfl, hj, hCL, hS⟩ := hrel
        by_cases hlt2 : 0 < j
        · go_wp2_with fail
          refine (L1.out _ hS.out.cur 20 (by omega) (by omega)).mono ?_
          rintro e w7 ⟨p, hp, rfl, c7, g7⟩
          have S7 := hS.out.drawn c7 g7
          obtain ⟨ca, cc, rfl⟩ := owns_slice S7.owns
          have s0 := S7.drew
          have k0 : w7.drew.cell? ⟨D, 3, none⟩ = some (.slice ca (List.length (α := tClosed.D) C) cc) := s0.cell 3
          obtain ⟨lc, hlc⟩ : ∃ lc, List.length (α := tClosed.D) C = lc := ⟨_, rfl⟩
          rw [hlc] at k0 s0 hj
          have HLC := Lib.hid hlc
          clear c7 g7 hS S7 hlc
          have OW : Hid (∀ wa, SeaW B a len cap g w hi2 D (.slice ra nr rc) (circL n) rest vd L m (.slice ca lc cc) C wa → wa.ownsRow m 66 3 (.slice ca lc cc) lc (ccells C)) := fun wa h => by rw [← HLC.out]; have := h.owns; rw [HLC.out] at this ⊢; exact this
          have LN : Hid (∀ wa, Cur B a len cap g wa → Calls Tryd.prog 54 #[.pointer (some ⟨B, 0, none⟩), .int .i64 (n : Int)] wa (Drawn B a len cap g n wa)) := fun wa h => L1.out wa h n (by omega) (by omega)
          have LT : Hid (∀ wa, Cur B a len cap g wa → Calls Tryd.prog 54 #[.pointer (some ⟨B, 0, none⟩), .int .i64 12] wa (Drawn B a len cap g 12 wa)) := fun wa h => L1.out wa h 12 (by omega) (by omega)
          go_wp2_with fail
          go_region_law
            (first
              | (go_simp; go_at_call 54; refine (LT.out _ (SeaW.cur sa)).mono ?_; rintro e wb ⟨uz, huz, rfl, cb7, gb7⟩; have sb := SeaW.drawn cb7 gb7 sa; have kb : wb.cell? ⟨D, 3, none⟩ = some (.slice ca lc cc) := SeaW.cell sb 3; have kc : ∀ o, (wb.alloc o).cell? ⟨D, 3, none⟩ = some (.slice ca lc cc) := fun o => SeaW.cell (SeaW.alloc o sb) 3; have w9 : IntKind.i64.wrap ((p : Int) + (uz : Int)) = (p : Int) + (uz : Int) := (by rw [IntKind.wrap_i64]; omega))
              | (go_simp; go_at_call 54; refine (LN.out _ (SeaW.cur s0)).mono ?_; rintro e wa ⟨tz, htz, rfl, ca7, ga7⟩; have sa := SeaW.drawn ca7 ga7 s0; have ka : wa.cell? ⟨D, 3, none⟩ = some (.slice ca lc cc) := SeaW.cell sa 3)
              | (refine step_append_lies _ (by rfl) (.tmp 46) (.tmp 56) 25 (by rfl) m 66 j0 (.agg #[.int .i64 0, .int .i64 0, .int .i64 0]) 3 24 Tryd.underlying25 ji jz0 jz1 jz2 rfl (by decide) (.slice ca lc cc) lc (ccells C) (by rfl) (OW.out _ (SeaW.alloc _ sb)) ⟨_, 0, none⟩ 1 1 [.int .i64 tz, .int .i64 p, .int .i64 ((p : Int) + uz)] (by rfl) (by rfl) (World.news_of_block (cs := #[.int .i64 tz, .int .i64 p, .int .i64 ((p : Int) + uz)]) (t := 66) (fr := (0, 0)) (heap_alloc_new _ _)) (by intro u hu; simp at hu; rcases hu with rfl | rfl | rfl <;> rfl) (by omega) (by unfold maxLen; omega) (by omega) (SeaW.size (SeaW.alloc _ sb)) _ rfl ?_; intro gg c9 wc oc gc hat hlt2; have s9 := SeaW.clos (x := mkC tz p ((p : Int) + uz)) rfl gc (by rw [HLC.out]; exact oc) sb; have f9 := s9.2.1; have e9 := s9.2.2)
              | fail)
          all_goals clear k0 ka kb kc w9 f9 e9
          all_goals go_wp2
          all_goals exact ⟨⟨j - 1, _, C ++ [mkC tz p ((p : Int) + uz)], by go_num, (by show List.length (α := tClosed.D) (C ++ [mkC tz p ((p : Int) + uz)]) + (j - 1) ≤ 2; rw [List.length_append, HLC.out]; show lc + 1 + (j - 1) ≤ 2; omega), Lib.hid (okC_push hCL.out ⟨by omega, by omega⟩ ⟨by omega, by omega⟩ ⟨by omega, by omega⟩), Lib.hid s9.1⟩, by simp [RowKit.intOf]; omega⟩
        · obtain rfl : j = 0 := by omega
          have S9 := hS.out
          obtain ⟨da, dc, rfl⟩ := owns_slice S9.2.2.2.2.1
          obtain ⟨ca, cc, rfl⟩ := owns_slice S9.owns
          have HC9 : Hid (closedP n C) := ⟨Nat.le_trans (Nat.le_add_right _ _) (Nat.le_trans hj (by decide)), hCL.out⟩
          obtain ⟨lc, hlc⟩ : ∃ lc, List.length (α := tClosed.D) C = lc := ⟨_, rfl⟩
          rw [hlc] at S9
          have HLC := Lib.hid hlc
          have SF : Hid (∀ wz, Touch w.heap.size (w.heap.size + 1) wr wz → _) := fun wz ht => S9.fin ht
          have d0 : wr.cell? ⟨D, 0, none⟩ = some (.slice ra nr rc) := S9.cell 0
          have d1 : wr.cell? ⟨D, 1, none⟩ = some (.slice da L.length dc) := S9.cell 1
          have d2 : wr.cell? ⟨D, 2, none⟩ = some (.int .i64 rest) := S9.cell 2
          have d3 : wr.cell? ⟨D, 3, none⟩ = some (.slice ca lc cc) := S9.cell 3
          have q0 : wr.cell? ⟨w.heap.size, 0, none⟩ = some (.slice none 0 0) := cell_of_row _ _ 0 _ _ (0, 0) S9.2.2.1
          have q1 : wr.cell? ⟨w.heap.size, 1, none⟩ = some (.slice none 0 0) := cell_of_row _ _ 1 _ _ (0, 0) S9.2.2.1
          have q2 : wr.cell? ⟨w.heap.size, 2, none⟩ = some (.int .i64 0) := cell_of_row _ _ 2 _ _ (0, 0) S9.2.2.1
          have q3 : wr.cell? ⟨w.heap.size, 3, none⟩ = some (.slice none 0 0) := cell_of_row _ _ 3 _ _ (0, 0) S9.2.2.1
          have r0 : wr.frozen? ⟨w.heap.size, 0, none⟩ = false := frozen_of_row _ _ 0 _ _ S9.2.2.1
          have r1 : wr.frozen? ⟨w.heap.size, 1, none⟩ = false := frozen_of_row _ _ 1 _ _ S9.2.2.1
          have r2 : wr.frozen? ⟨w.heap.size, 2, none⟩ = false := frozen_of_row _ _ 2 _ _ S9.2.2.1
          have r3 : wr.frozen? ⟨w.heap.size, 3, none⟩ = false := frozen_of_row _ _ 3 _ _ S9.2.2.1
          have n1 : ¬ (w.heap.size = D) := by have := S9.2.2.2.2.2.2.1.2.1; omega
          have n2 : ¬ (D = w.heap.size) := by omega
          have hR : w.heap.size < wr.heap.size := (Array.getElem?_eq_some_iff.1 S9.2.2.1).1
          clear hS S9 hCL hlc hj
          go_wp2_with fail
          go_region
          all_goals go_wp2
          have TT : Touch w.heap.size (w.heap.size + 1) wr ((((wr.setCell ⟨w.heap.size, 0, none⟩ (.slice ra nr rc)).setCell ⟨w.heap.size, 1, none⟩ (.slice da L.length dc)).setCell ⟨w.heap.size, 2, none⟩ (.int .i64 rest)).setCell ⟨w.heap.size, 3, none⟩ (.slice ca lc cc)).drew :=
            (((((Touch.refl _ _ _).setCell ⟨w.heap.size, 0, none⟩ _ (by simp) (by simp)).setCell ⟨w.heap.size, 1, none⟩ _ (by simp) (by simp)).setCell ⟨w.heap.size, 2, none⟩ _ (by simp) (by simp)).setCell ⟨w.heap.size, 3, none⟩ _ (by simp) (by simp)).trans (Touch.of_below (Below.refl _ _).drew)
          obtain ⟨x1, x2, x3, x4, x5⟩ := SF.out _ TT
          refine bodyPost_ret (v := .tuple #[.int .i64 n, .agg #[.slice ra nr rc, .slice da L.length dc, .int .i64 rest, .slice ca lc cc]]) (by simp [results, Tryd.results23, go_sem, q0, q1, q2, q3]) rfl ?_
          exact ⟨n, hi2, _, _, _, rest, L, C, rfl, ⟨HK.out.1, HK.out.2, HL.out.1, HL.out.2, HC9.out⟩, x1, x2, x3, x4, x5⟩
def SeaMade10 (w : World) (e : Ending) (w' : World) : Prop :=
  ∃ (n : Nat) (vr vd vc : Value) (rest : Int) (L : List Int) (C : ClosL), e = .returned (.tuple #[.int .i64 n, .agg #[vr, vd, .int .i64 rest, vc]]) ∧ ((2 ≤ n ∧ n ≤ 6) ∧ (1 ≤ rest ∧ rest ≤ 3) ∧ daysP L ∧ L.length ≤ 17 ∧ closedP n C) ∧
    RdA tPairSS w' [vr] (circL n) ∧ IntRow w' vd L.length (getI L) ∧ RdA tClosedS w' [vc] C ∧ Below w.heap.size w w'
set_option maxRecDepth 100000 in
set_option maxHeartbeats 1000000 in
theorem makeSeason_any (a : Option Addr) (len cap : Nat) (g : Nat → Nat) (w : World) (hr : ByteRow w a len g) (hg : ∀ i, g i ≤ 255) (hl : len ≤ 1048576) :
    Calls Tryd.prog 6 #[.slice a len cap] w (SeaMade10 w) := by
  have C := Lib.hid (fun w1 hr => l01New_any a len cap g w1 hr hg hl)
  have L2 := Lib.hid (fun B w1 hc => l10Draw_any B a len cap g w1 hc)
  have HR := Lib.hid hr
  clear hr hg hl
  go_enter Tryd.func6, Tryd.ntmps6
  go_wp2_with fail
  refine (C.out _ (HR.out.below ((Below.refl _ w).alloc (Nat.le_refl _) _) (Nat.le_refl _))).mono ?_
  rintro e w1 ⟨B, rfl, hB, hc, hb⟩
  have L3 := Lib.hid (L2.out B w1 hc)
  have HB := Lib.hid hb
  have hs := hb.size
  clear C L2 hc hb
  go_wp2_with fail
  refine L3.out.mono ?_
  rintro e w2 ⟨n, hi2, vr, vd, vc, rest, L, C, rfl, hgood, ho, hd, hcl, hc, hg⟩
  replace ho : OwN tPairSS w2 (w1.heap.size + 1) hi2 [vr] (circL n) := ho
  have b2 : Below (w.heap.size + 1) (w.alloc (.cells #[.slice none 0 0, .slice none 0 0, .int .i64 0, .slice none 0 0] 27)) w2 := by
    have h1 := HB.out.grown hg hs fun k hk => by cases hk; exact hB
    simpa using h1
  have bz := BoxN.made (u := w) (by simpa using b2) (B := w.heap.size) rfl
  have q0 := bz.2 0 _ rfl
  have q1 := bz.2 1 _ rfl
  have q2 := bz.2 2 _ rfl
  have q3 := bz.2 3 _ rfl
  have f0 := fun j => BoxN.free (u := w) (by simpa using b2) (B := w.heap.size) rfl j
  have hlt : w.heap.size < w2.heap.size := bz.1
  obtain ⟨ra, rc, rfl, _⟩ := schedule_form ho.rdA
  obtain ⟨da, dc, rfl⟩ := owns_slice hd
  obtain ⟨ca, cc, rfl⟩ := owns_slice hcl
  have HO := Lib.hid ho
  have HD := Lib.hid hd
  have HCL := Lib.hid hcl
  have HG := Lib.hid hgood
  have B2 := Lib.hid b2
  have hs1 := hs
  simp only [World.size_alloc] at hs1
  have HSZ := Lib.hid hs1
  obtain ⟨nr, hnr⟩ : ∃ nr, List.length (α := PairL) (circL n) = nr := ⟨_, rfl⟩
  obtain ⟨nc, hnc⟩ : ∃ nc, List.length (α := tClosed.D) C = nc := ⟨_, rfl⟩
  rw [hnr] at HO ⊢
  rw [hnc] at HCL ⊢
  have HNC := Lib.hid hnc
  clear ho hd hcl hgood hc hg bz b2 hnr hnc hs
  go_wp2
  have TT : Touch w.heap.size (w.heap.size + 1) w2 ((((w2.setCell ⟨w.heap.size, 0, none⟩ (.slice ra nr rc)).setCell ⟨w.heap.size, 1, none⟩ (.slice da L.length dc)).setCell ⟨w.heap.size, 2, none⟩ (.int .i64 rest)).setCell ⟨w.heap.size, 3, none⟩ (.slice ca nc cc)) :=
    ((((Touch.refl _ _ _).setCell ⟨w.heap.size, 0, none⟩ _ (by simp) (by simp)).setCell ⟨w.heap.size, 1, none⟩ _ (by simp) (by simp)).setCell ⟨w.heap.size, 2, none⟩ _ (by simp) (by simp)).setCell ⟨w.heap.size, 3, none⟩ _ (by simp) (by simp)
  refine bodyPost_ret (v := .tuple #[.int .i64 n, .agg #[.slice ra nr rc, .slice da L.length dc, .int .i64 rest, .slice ca nc cc]]) (by simp [results, Tryd.results6, go_sem, q0, q1, q2, q3]) rfl ?_
  generalize ((((w2.setCell ⟨w.heap.size, 0, none⟩ (.slice ra nr rc)).setCell ⟨w.heap.size, 1, none⟩ (.slice da L.length dc)).setCell ⟨w.heap.size, 2, none⟩ (.int .i64 rest)).setCell ⟨w.heap.size, 3, none⟩ (.slice ca nc cc)) = w9 at *
  have hsz := HSZ.out
  have hL := HG.out.2.2.2.1
  have hC := HG.out.2.2.2.2.1
  have hg9 : w2.grownBy w9 (some w.heap.size) := ⟨TT.os, TT.tape, TT.output, TT.size, fun k hk hne => TT.block k hk (by have : k ≠ w.heap.size := fun e => hne (by rw [e]); omega)⟩
  have hd9 := HD.out.kept hg9 (by
    cases hv : (Value.slice da L.length dc).ownBlock with
    | none => exact .inl rfl
    | some q => exact .inr fun e => by have := (HD.out.lt q hv).1; simp at e; omega)
  have hc9 := HCL.out.kept hg9 (by
    cases hv : (Value.slice ca nc cc).ownBlock with
    | none => exact .inl rfl
    | some q => exact .inr fun e => by have := (HCL.out.lt q hv).1; simp at e; omega)
  have b9 : Below w.heap.size w w9 := ((Below.refl w.heap.size w).alloc (Nat.le_refl _) _).trans ((B2.out.mono (Nat.le_succ _)).trans (TT.below (Nat.le_refl _) (Nat.le_of_lt hlt)))
  exact ⟨n, _, _, _, rest, L, C, rfl, HG.out, (HO.out.touch TT (.inr (by omega))).rdA, IntRow.of_list hd9 (by omega), clos_rd (by rw [HNC.out]; exact hc9) (by omega), b9⟩
end Go.Proofs.YtcbpgbiannpfpaaDoor
set_option linter.unusedVariables false
namespace Go.Proofs.YtcbpgbiannpfpaaDoor
open Go.RowKit

theorem mks_SS (d : List PairL) : tPairSS.mks d = (d.map fun r => 2 * List.length (α := tPair.D) r).sum := by
  show (d.map tPairS.mks).sum = _
  congr 1
  exact List.map_congr_left fun r _ => mks_PairS r
theorem wt_SS (d : List PairL) : tPairSS.wt d = List.length (α := PairL) d + (d.map fun r => List.length (α := tPair.D) r).sum := by
  show List.length (α := PairL) d + (d.map tPairS.wt).sum = _
  congr 2
  exact List.map_congr_left fun r _ => wt_PairS r
theorem sum_circ (n m : Nat) : ∀ k, ((circN n m k).map fun r => List.length (α := tPair.D) r).sum ≤ k * m
  | 0 => Nat.zero_le _
  | k + 1 => by
    have h := sum_circ n m k
    have h2 := circK_len n m k (m / 2)
    show ((circN n m k ++ [circK n m k (m / 2)]).map fun r => List.length (α := tPair.D) r).sum ≤ _
    rw [List.map_append, List.sum_append, Nat.succ_mul]
    show _ + (List.length (α := tPair.D) (circK n m k (m / 2)) + 0) ≤ _
    omega
theorem sum_two (d : List PairL) : (d.map fun r => 2 * List.length (α := tPair.D) r).sum = 2 * (d.map fun r => List.length (α := tPair.D) r).sum := by
  induction d with
  | nil => rfl
  | cons r d ih => rw [List.map_cons, List.sum_cons, List.map_cons, List.sum_cons, ih]; omega
theorem sum_circL {n : Nat} (h : n ≤ 8) : ((circL n).map fun r => List.length (α := tPair.D) r).sum ≤ 81 := by
  refine Nat.le_trans (sum_circ n (n + n % 2) (n + n % 2 - 1)) ?_
  have h1 : n + n % 2 - 1 ≤ 9 := by omega
  have h2 : n + n % 2 ≤ 9 := by omega
  exact Nat.mul_le_mul h1 h2
theorem len_circL {n : Nat} (h : n ≤ 8) : List.length (α := PairL) (circL n) ≤ 9 := by unfold circL; rw [circN_len]; omega
theorem marks_circ {R : Bool} {N : Int} (hR : R = true ↔ (2 ≤ N ∧ N ≤ 8)) : tPairSS.mks (circR R N) ≤ 100000000000 := by
  rw [mks_SS, sum_two]
  cases R with
  | false => exact Nat.zero_le _
  | true =>
    have h := sum_circL (n := N.toNat) (by have := hR.1 rfl; omega)
    show 2 * ((circL N.toNat).map fun r => List.length (α := tPair.D) r).sum ≤ _
    omega
theorem wt_circ {n : Nat} (h : n ≤ 8) : tPairSS.wt (circL n) ≤ 100 := by
  rw [wt_SS]
  have h1 := sum_circL h
  have h2 := len_circL h
  omega
theorem sum_turn (d : List PairL) : ((d.map turnR).map fun r => List.length (α := tPair.D) r).sum = (d.map fun r => List.length (α := tPair.D) r).sum := by
  induction d with
  | nil => rfl
  | cons r d ih =>
    rw [List.map_cons, List.map_cons, List.sum_cons, List.map_cons, List.sum_cons, ih]
    congr 1
    exact List.length_map ..
theorem wt_mir (d : List PairL) : tPairSS.wt (mirL d) = 2 * tPairSS.wt d := by
  rw [wt_SS, wt_SS]
  unfold mirL
  rw [List.map_append, List.sum_append, sum_turn, List.length_append, List.length_map]
  show List.length (α := PairL) d + List.length (α := PairL) d + _ = _
  omega
theorem marks_mir (d : List PairL) (hw : tPairSS.wt d ≤ 1048576) : tPairSS.mks (mirL d) ≤ 100000000000 := by
  have h1 := wt_mir d
  rw [wt_SS] at h1
  rw [mks_SS, sum_two]
  omega
end Go.Proofs.YtcbpgbiannpfpaaDoor
set_option linter.unusedVariables false
namespace Go.Proofs.YtcbpgbiannpfpaaDoor
open Go.RowKit

def metP (d : List PairL) (T : Int) (a b : Nat) : Prop := cntL a b d ≤ 1 ∧ cntL b a d ≤ 1 ∧ (cntL a b d : Int) + (cntL b a d : Int) = T
def robinP (N : Int) (d : List PairL) (T : Int) : Prop := schedP N d ∧ (1 ≤ T ∧ T ≤ 2) ∧ ∀ a b : Nat, b < a → (a : Int) < N → metP d T a b
def totB (d : List PairL) : Nat → Nat
  | 0 => 0
  | k + 1 => totB d k + breaksL d k
theorem totB_succ (d : List PairL) (k : Nat) : totB d (k + 1) = totB d k + breaksL d k := rfl
end Go.Proofs.YtcbpgbiannpfpaaDoor
set_option linter.unusedVariables false
namespace Go.Proofs.YtcbpgbiannpfpaaDoor
open Go.RowKit

def gamesR (r : PairL) : List GameD := r.map fun p => ⟨hm p, aw p, 0, 0, 0⟩
def gamesL (d : List PairL) : List GameD := d.flatMap gamesR
theorem gamesR_cons (p : tPair.D) (r : PairL) : gamesR (p :: r) = [⟨hm p, aw p, 0, 0, 0⟩] ++ gamesR r := rfl
theorem gamesL_cons (r : PairL) (d : List PairL) : gamesL (r :: d) = gamesR r ++ gamesL d := rfl
theorem gamesL_len : ∀ d : List PairL, (gamesL d).length ≤ tPairSS.wt d
  | [] => Nat.zero_le _
  | r :: d => by
    have h1 := gamesL_len d
    have h2 : (gamesR r).length = List.length (α := tPair.D) r := List.length_map ..
    refine Nat.le_trans ?_ (Nat.le_of_eq (wt_PairSS_cons r d).symm)
    rw [gamesL_cons, List.length_append]
    omega
def ocells (L : List GameD) : List Value := L.flatMap GameD.cells
theorem ocells_push (L : List GameD) (x : GameD) : ocells (L ++ [x]) = ocells L ++ x.cells := by unfold ocells; rw [List.flatMap_append]; simp
end Go.Proofs.YtcbpgbiannpfpaaDoor
set_option linter.unusedVariables false
namespace Go.Proofs.YtcbpgbiannpfpaaDoor
open Go.RowKit

def getPR (d : List PairL) (i : Nat) : PairL := (d[i]?).getD []
def getO (L : List GameD) (i : Nat) : GameD := (L[i]?).getD default
def homeS (L : List Int) : Nat → Int
  | 0 => 0
  | k + 1 => homeS L k + 2 * (getI L k % 2) - getI L k + getI L k / 2
def schedB (n : Nat) (d : List PairL) : Bool := decide (List.length (α := PairL) d ≤ 14) && d.all fun r => decide (∀ t ∈ teamsR r, 0 ≤ t ∧ t ≤ (n : Int) - 1) && decide (teamsR r).Nodup
def robinB (n : Nat) (d : List PairL) (T : Int) : Bool := schedB n d && (List.range n).all fun a => (List.range a).all fun b => decide (cntL a b d ≤ 1 ∧ cntL b a d ≤ 1 ∧ (cntL a b d : Int) + (cntL b a d : Int) = T)
instance (n : Int) (t : GameD) : Decidable (gameP n t) := by unfold gameP; infer_instance
def seasonB (n : Nat) (L : List GameD) : Bool := decide (L.length ≤ 60) && (List.range L.length).all fun i => decide (gameP n (getO L i)) && decide (firstI (atG (getO L) (getO L i).home (getO L i).away) L.length 0 = (i : Int))
def roundB (n : Nat) : Bool :=
  robinB n (circL n) 1 && robinB n (mirL (circL n)) 2 && !(robinB n (circL n) 2) && decide ((gamesL (circL n)).length = n * (n - 1) / 2) && decide (0 < List.length (α := PairL) (circL n)) &&
  decide (0 < List.length (α := tPair.D) (getPR (mirL (circL n)) 0)) && seasonB n (gamesL (mirL (circL n))) &&
  ((List.range n).all fun t => decide (homeS (venL (mirL (circL n)) t) (List.length (α := PairL) (mirL (circL n))) = 0)) &&
  decide (ixL (aw ((getPR (mirL (circL n)) 0).headD (mkP 0 0))) (hm ((getPR (mirL (circL n)) 0).headD (mkP 0 0))) (mirL (circL n)) 0 = (List.length (α := PairL) (circL n) : Int))
theorem round_all : ∀ i : Fin 7, roundB (i.1 + 2) = true := by decide +kernel
theorem sched_iff {n : Nat} {d : List PairL} (h : 2 ≤ n ∧ n ≤ 8) : schedB n d = true ↔ schedP (n : Int) d := by
  unfold schedB schedP onceP
  rw [Bool.and_eq_true, decide_eq_true_eq, List.all_eq_true]
  constructor
  · rintro ⟨h1, h2⟩
    refine ⟨⟨by omega, by omega⟩, h1, fun r hr => ?_⟩
    have h3 := h2 r hr
    rw [Bool.and_eq_true, decide_eq_true_eq, decide_eq_true_eq] at h3
    exact h3
  · rintro ⟨_, h1, h2⟩
    exact ⟨h1, fun r hr => by rw [Bool.and_eq_true, decide_eq_true_eq, decide_eq_true_eq]; exact h2 r hr⟩
theorem robin_iff {n : Nat} {d : List PairL} {T : Int} (h : 2 ≤ n ∧ n ≤ 8) (hT : 1 ≤ T ∧ T ≤ 2) : robinB n d T = true ↔ robinP (n : Int) d T := by
  unfold robinB robinP metP
  rw [Bool.and_eq_true, sched_iff h, List.all_eq_true]
  constructor
  · rintro ⟨h1, h2⟩
    refine ⟨h1, hT, fun a b hb ha => ?_⟩
    have h3 := h2 a (List.mem_range.2 (by omega))
    rw [List.all_eq_true] at h3
    exact of_decide_eq_true (h3 b (List.mem_range.2 hb))
  · rintro ⟨h1, _, h2⟩
    refine ⟨h1, fun a ha => ?_⟩
    rw [List.all_eq_true]
    exact fun b hb => decide_eq_true (h2 a b (List.mem_range.1 hb) (by have := List.mem_range.1 ha; omega))
theorem season_of {n : Nat} {L : List GameD} (h : seasonB n L = true) : seasonP (n : Int) L.length (getO L) := by
  unfold seasonB at h
  rw [Bool.and_eq_true, decide_eq_true_eq, List.all_eq_true] at h
  refine ⟨h.1, fun i hi => ?_⟩
  have h2 := h.2 i (List.mem_range.2 hi)
  rw [Bool.and_eq_true, decide_eq_true_eq, decide_eq_true_eq] at h2
  exact h2
structure RoundsAre (n : Nat) (D M : List PairL) : Prop where
  one : robinP (n : Int) D 1
  two : robinP (n : Int) M 2
  not : ¬ robinP (n : Int) D 2
  games : (gamesL D).length = n * (n - 1) / 2
  some : 0 < List.length (α := PairL) D
  first : 0 < List.length (α := tPair.D) (getPR M 0)
  season : seasonP (n : Int) (gamesL M).length (getO (gamesL M))
  home : ∀ t : Nat, t < n → homeS (venL M t) (List.length (α := PairL) M) = 0
  mirror : ixL (aw ((getPR M 0).headD (mkP 0 0))) (hm ((getPR M 0).headD (mkP 0 0))) M 0 = (List.length (α := PairL) D : Int)
theorem rounds_are {n : Nat} (h2 : 2 ≤ n) (h8 : n ≤ 8) : RoundsAre n (circL n) (mirL (circL n)) := by
  have h := round_all ⟨n - 2, by omega⟩
  have e : n - 2 + 2 = n := by omega
  rw [show ((⟨n - 2, by omega⟩ : Fin 7).1 + 2) = n from e] at h
  unfold roundB at h
  simp only [Bool.and_eq_true, decide_eq_true_eq, Bool.not_eq_true'] at h
  obtain ⟨⟨⟨⟨⟨⟨⟨⟨q1, q2⟩, q3⟩, q4⟩, q5⟩, q6⟩, q7⟩, q8⟩, q9⟩ := h
  refine ⟨(robin_iff ⟨h2, h8⟩ (by omega)).1 q1, (robin_iff ⟨h2, h8⟩ (by omega)).1 q2, fun hp => ?_, q4, q5, q6, season_of q7, fun t ht => ?_, q9⟩
  · have := (robin_iff ⟨h2, h8⟩ (by omega)).2 hp
    rw [q3] at this
    cases this
  · rw [List.all_eq_true] at q8
    exact of_decide_eq_true (q8 t (List.mem_range.2 ht))
end Go.Proofs.YtcbpgbiannpfpaaDoor
set_option linter.unusedVariables false
namespace Go.Proofs.YtcbpgbiannpfpaaDoor
open Go.RowKit Go.Extern.Stop Go.Stop Go.Extern

theorem Tryd.isTypeOf (v : Value) (w : World) : (callFunc 57 #[.iface 133 v]).run Tryd.prog w = .ok (.value (.iface 116 (.agg #[.pointer (some ⟨1, 133, none⟩)]))) w := by kernel_rfl
theorem Tryd.isComparable (w : World) : (callFunc 107 #[.agg #[.pointer (some ⟨1, 133, none⟩)]]).run Tryd.prog w = .ok (.value (.bool true)) w := by kernel_rfl
theorem Tryd.isMethodComparable (v : Value) (w : World) : (Go.method 271 116 v "Comparable").run Tryd.prog w = .ok (107, v) w := by kernel_rfl
theorem Tryd.isComp : (Tryd.prog.info? 133).map (·.comparable) = some true := by kernel_rfl
theorem Tryd.isSize : (Tryd.prog.info? 159).map (·.size) = some 1 := by kernel_rfl
set_option maxRecDepth 100000 in
theorem is_same (a : Addr) (w : World) :
    Calls Tryd.prog 27 #[.iface 133 (.pointer (some a)), .iface 133 (.pointer (some a))] w fun e w' => e = .returned (.bool true) ∧ w' = w := by
  obtain ⟨i, hi, hcmp⟩ := Option.map_eq_some_iff.1 Tryd.isComp
  obtain ⟨j, hj, hjs⟩ := Option.map_eq_some_iff.1 Tryd.isSize
  have tT := Tryd.isTypeOf
  have cT := Tryd.isComparable
  have mR := Tryd.isMethodComparable
  have heq := run_eql_iface_ptr_same (P := Tryd.prog) w a Tryd.underlying56 Tryd.underlying133 hi hcmp hj
  go_enter Tryd.func27, Tryd.ntmps27
  go_wp2
  refine wp_loop_rounds 1 ?_
  rw [rounds_succ]
  go_wp2
  go_ret
  exact ⟨rfl, rfl⟩
theorem is_nil (b : Addr) (w : World) :
    Calls Tryd.prog 27 #[.nilIface, .iface 133 (.pointer (some b))] w fun e w' => e = .returned (.bool false) ∧ w' = w := by
  have hn := run_eql_iface_nil_left (P := Tryd.prog) w 133 (.pointer (some b)) Tryd.underlying56
  go_enter Tryd.func27, Tryd.ntmps27
  go_wp2
  go_ret
  exact ⟨rfl, rfl⟩
def ErrAt (w : World) (a : Addr) : Prop := VarAt w 0 #[.iface 133 (.pointer (some a))]
theorem ErrAt.below {w w' : World} {a : Addr} (h : ErrAt w a) (b : Below w.heap.size w w') : ErrAt w' a := VarAt.below h b (Nat.le_refl _)
theorem ErrAt.cell {w : World} {a : Addr} (h : ErrAt w a) : w.cell? ⟨0, 0, none⟩ = some (.iface 133 (.pointer (some a))) := by
  obtain ⟨t, fz, hg⟩ := h
  unfold World.cell?
  simp [hg]
end Go.Proofs.YtcbpgbiannpfpaaDoor
