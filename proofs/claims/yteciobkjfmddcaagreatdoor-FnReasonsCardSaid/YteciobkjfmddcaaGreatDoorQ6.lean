/-
  Packed: BookMake, BookMake2, GamesFacts, TabPlain, RankFrom, AllL, FieldPlain, RulesPlain, MadeBook, OrderMake.
-/
import Derived.Deep.AppendLies
import Derived.Test.YteciobkjfmddcaaGreatDoorQ2
import Derived.Test.YteciobkjfmddcaaGreatDoorQ3
import Derived.Test.YteciobkjfmddcaaGreatDoorQ4
import Derived.Test.YteciobkjfmddcaaGreatDoorQ5
set_option linter.unusedVariables false
namespace Go.Proofs.YteciobkjfmddcaaGreatDoor
open Go.RowKit

def BkFix (B : Nat) (a : Option Addr) (len cap : Nat) (g : Nat → Nat) (w0 : World) (D n : Nat) (vf : Value) (xf : List Value) (vl : Value) (LL : List Int) (vg : Value) (LG : List GameD) (w : World) : Prop :=
  Cur B a len cap g w ∧ w.ownsRow (w0.heap.size + 1) 90 3 vf n xf ∧ w.ownsRow (w0.heap.size + 1) 3 1 vl LL.length (LL.map (Value.int .i64)) ∧ w.ownsRow (w0.heap.size + 1) 93 5 vg LG.length (gcells LG) ∧
    w.heap[w0.heap.size]? = some (.cells #[.slice none 0 0, .int .i64 0, .int .i64 0, .int .i64 0, .slice none 0 0, .bool false, .slice none 0 0, .slice none 0 0, .slice none 0 0] 29 (0, 0)) ∧ w0.grownBy w (some B) ∧
    (B < w0.heap.size ∧ w0.heap.size < D ∧ D < w.heap.size ∧ (∀ k, vf.ownBlock = some k → k < D) ∧ (∀ k, vl.ownBlock = some k → k < D) ∧ (∀ k, vg.ownBlock = some k → k < D))
section
variable {B : Nat} {a : Option Addr} {len cap : Nat} {g : Nat → Nat} {w0 : World} {D n : Nat} {vf : Value} {xf : List Value} {vl : Value} {LL : List Int} {vg : Value} {LG : List GameD} {w w' : World}
theorem BkFix.below (h : BkFix B a len cap g w0 D n vf xf vl LL vg LG w) (hb : Below D w w') : BkFix B a len cap g w0 D n vf xf vl LL vg LG w' := by
  obtain ⟨h1, h2, h3, h4, h5, h6, h7, h8, h9, h10, h11, h12⟩ := h
  have hs := h6.size
  refine ⟨h1.belowW hb (by omega), owns_kept h2 hb h10, owns_kept h3 hb h11, owns_kept h4 hb h12, (hb.block _ h8).trans h5, ⟨hb.os.trans h6.os, hb.tape.trans h6.tape, hb.output.trans h6.output, Nat.le_trans hs hb.size, fun k hk hne => (hb.block k (by omega)).trans (h6.block k hk hne)⟩, h7, h8, Nat.lt_of_lt_of_le h9 hb.size, h10, h11, h12⟩
theorem BkFix.drawn (h : BkFix B a len cap g w0 D n vf xf vl LL vg LG w) (hc : Cur B a len cap g w') (hg : w.grownBy w' (some B)) : BkFix B a len cap g w0 D n vf xf vl LL vg LG w' := by
  obtain ⟨h1, h2, h3, h4, h5, h6, h7, h8, h9, h10, h11, h12⟩ := h
  have key : ∀ {e : TypeId} {size m : Nat} {v : Value} {xs : List Value}, w.ownsRow (w0.heap.size + 1) e size v m xs → v.ownBlock = none ∨ v.ownBlock ≠ some B := fun {e size m v xs} ho => by
    cases hv : v.ownBlock with
    | none => exact .inl rfl
    | some k => exact .inr fun e => by have := (ho.lt k hv).1; simp at e; omega
  exact ⟨hc, h2.kept hg (key h2), h3.kept hg (key h3), h4.kept hg (key h4), (hg.block _ (by omega) (by intro e; simp at e; omega)).trans h5, grown_trans h6 hg, h7, h8, Nat.lt_of_lt_of_le h9 hg.size, h10, h11, h12⟩
end
def BkBox (B : Nat) (a : Option Addr) (len cap : Nat) (g : Nat → Nat) (w0 : World) (D n : Nat) (vf : Value) (xf : List Value) (vl : Value) (LL : List Int) (vg : Value) (LG : List GameD) (win : Int) (ag : Bool) (vfa : Value) (F : List Int) (vta : Value) (T : List Int) (w : World) : Prop :=
  BkFix B a len cap g w0 D n vf xf vl LL vg LG w ∧ w.heap[D]? = some (.cells #[vf, .int .i64 win, .int .i64 1, .int .i64 0, vl, .bool ag, vg, vfa, vta] 29 (0, 0)) ∧
    w.ownsRow (D + 1) 3 1 vfa F.length (F.map (Value.int .i64)) ∧ w.ownsRow (D + 1) 3 1 vta T.length (T.map (Value.int .i64)) ∧ (∀ k, vfa.ownBlock = some k → vta.ownBlock ≠ some k)
section
variable {B : Nat} {a : Option Addr} {len cap : Nat} {g : Nat → Nat} {w0 : World} {D n : Nat} {vf : Value} {xf : List Value} {vl : Value} {LL : List Int} {vg : Value} {LG : List GameD} {win : Int} {ag : Bool} {vfa : Value} {F : List Int} {vta : Value} {T : List Int} {w w' : World}
theorem BkBox.below (h : BkBox B a len cap g w0 D n vf xf vl LL vg LG win ag vfa F vta T w) (hb : Below w.heap.size w w') : BkBox B a len cap g w0 D n vf xf vl LL vg LG win ag vfa F vta T w' := by
  obtain ⟨h1, h2, h3, h4, h5⟩ := h
  have hD : D < w.heap.size := (Array.getElem?_eq_some_iff.1 h2).1
  exact ⟨h1.below (hb.mono (by omega)), (hb.block D hD).trans h2, owns_below h3 hb (Nat.le_refl _), owns_below h4 hb (Nat.le_refl _), h5⟩
theorem BkBox.drawn (h : BkBox B a len cap g w0 D n vf xf vl LL vg LG win ag vfa F vta T w) (hc : Cur B a len cap g w') (hg : w.grownBy w' (some B)) : BkBox B a len cap g w0 D n vf xf vl LL vg LG win ag vfa F vta T w' := by
  obtain ⟨h1, h2, h3, h4, h5⟩ := h
  have hD : D < w.heap.size := (Array.getElem?_eq_some_iff.1 h2).1
  have h7 := h1.2.2.2.2.2.2.1
  have h8 := h1.2.2.2.2.2.2.2.1
  have key : ∀ {m : Nat} {v : Value} {xs : List Value}, w.ownsRow (D + 1) 3 1 v m xs → v.ownBlock = none ∨ v.ownBlock ≠ some B := fun {m v xs} ho => by
    cases hv : v.ownBlock with
    | none => exact .inl rfl
    | some k => exact .inr fun e => by have := (ho.lt k hv).1; simp at e; omega
  exact ⟨h1.drawn hc hg, (hg.block D hD (by intro e; simp at e; omega)).trans h2, h3.kept hg (key h3), h4.kept hg (key h4), h5⟩
theorem BkBox.cell (h : BkBox B a len cap g w0 D n vf xf vl LL vg LG win ag vfa F vta T w) (j : Nat) : w.cell? ⟨D, j, none⟩ = #[vf, .int .i64 win, .int .i64 1, .int .i64 0, vl, .bool ag, vg, vfa, vta][j]? := cell_of_row w D j _ _ (0, 0) h.2.1
theorem BkBox.free (h : BkBox B a len cap g w0 D n vf xf vl LL vg LG win ag vfa F vta T w) (j : Nat) : w.frozen? ⟨D, j, none⟩ = false := frozen_of_row w D j _ _ h.2.1
theorem BkBox.cur (h : BkBox B a len cap g w0 D n vf xf vl LL vg LG win ag vfa F vta T w) : Cur B a len cap g w := h.1.1
theorem BkBox.size (h : BkBox B a len cap g w0 D n vf xf vl LL vg LG win ag vfa F vta T w) : D + 1 ≤ w.heap.size := h.1.2.2.2.2.2.2.2.2.1
theorem BkBox.fair (h : BkBox B a len cap g w0 D n vf xf vl LL vg LG win ag vfa F vta T w) {x : Int} {v : Value} {gg : Nat} (ho : w'.ownsRow (D + 1) 3 1 v (F.length + 1) (F.map (Value.int .i64) ++ [.int .i64 x])) (hg : w.grownBy w' vfa.ownBlock)
    (hv : v.ownBlock = some gg) (hat : vfa.ownBlock = some gg ∨ w.heap.size ≤ gg) :
    (w'.cell? ⟨D, 7, none⟩ = some vfa ∧ w'.frozen? ⟨D, 7, none⟩ = false) ∧ BkBox B a len cap g w0 D n vf xf vl LL vg LG win ag v (F ++ [x]) vta T (w'.setCell ⟨D, 7, none⟩ v) := by
  obtain ⟨h1, h2, h3, h4, h5⟩ := h
  have hsz : D < w.heap.size := (Array.getElem?_eq_some_iff.1 h2).1
  have hb : Below (D + 1) w w' := (Below.refl _ _).grown hg (by omega) (fun k hk => (h3.lt k hk).1)
  have hD := (hb.block D (by omega)).trans h2
  have hgg : D + 1 ≤ gg := (ho.lt gg hv).1
  have h4' : w'.ownsRow (D + 1) 3 1 vta T.length (T.map (Value.int .i64)) := h4.kept hg (by
    cases hk : vta.ownBlock with
    | none => exact .inl rfl
    | some k => exact .inr fun e => h5 k e.symm hk)
  have key : ∀ {m : Nat} {u : Value} {xs : List Value}, w'.ownsRow (D + 1) 3 1 u m xs → (w'.setCell ⟨D, 7, none⟩ v).ownsRow (D + 1) 3 1 u m xs := fun {m u xs} ho => ho.kept (grown_set w' D 7 v) (by
    cases hk : u.ownBlock with
    | none => exact .inl rfl
    | some k => exact .inr fun e => by have := (ho.lt k hk).1; simp at e; omega)
  refine ⟨⟨by rw [cell_of_row w' D 7 _ _ (0, 0) hD]; rfl, frozen_of_row w' D 7 _ _ hD⟩, h1.below ((hb.mono (show D ≤ D + 1 by omega)).setCell (p := ⟨D, 7, none⟩) (Nat.le_refl D) _), by rw [heap_setCell_same w' D 7 _ _ _ hD]; rfl, by simpa using key ho, key h4', fun k hk e => ?_⟩
  rw [hv] at hk
  simp only [Option.some.injEq] at hk
  subst hk
  rcases hat with h6 | h6
  · exact h5 gg h6 e
  · have := (h4.lt gg e).2; omega
theorem BkBox.taken (h : BkBox B a len cap g w0 D n vf xf vl LL vg LG win ag vfa F vta T w) {x : Int} {v : Value} {gg : Nat} (ho : w'.ownsRow (D + 1) 3 1 v (T.length + 1) (T.map (Value.int .i64) ++ [.int .i64 x])) (hg : w.grownBy w' vta.ownBlock)
    (hv : v.ownBlock = some gg) (hat : vta.ownBlock = some gg ∨ w.heap.size ≤ gg) :
    (w'.cell? ⟨D, 8, none⟩ = some vta ∧ w'.frozen? ⟨D, 8, none⟩ = false) ∧ BkBox B a len cap g w0 D n vf xf vl LL vg LG win ag vfa F v (T ++ [x]) (w'.setCell ⟨D, 8, none⟩ v) := by
  obtain ⟨h1, h2, h3, h4, h5⟩ := h
  have hsz : D < w.heap.size := (Array.getElem?_eq_some_iff.1 h2).1
  have hb : Below (D + 1) w w' := (Below.refl _ _).grown hg (by omega) (fun k hk => (h4.lt k hk).1)
  have hD := (hb.block D (by omega)).trans h2
  have hgg : D + 1 ≤ gg := (ho.lt gg hv).1
  have h3' : w'.ownsRow (D + 1) 3 1 vfa F.length (F.map (Value.int .i64)) := h3.kept hg (by
    cases hk : vfa.ownBlock with
    | none => exact .inl rfl
    | some k => exact .inr fun e => h5 k hk e.symm)
  have key : ∀ {m : Nat} {u : Value} {xs : List Value}, w'.ownsRow (D + 1) 3 1 u m xs → (w'.setCell ⟨D, 8, none⟩ v).ownsRow (D + 1) 3 1 u m xs := fun {m u xs} ho => ho.kept (grown_set w' D 8 v) (by
    cases hk : u.ownBlock with
    | none => exact .inl rfl
    | some k => exact .inr fun e => by have := (ho.lt k hk).1; simp at e; omega)
  refine ⟨⟨by rw [cell_of_row w' D 8 _ _ (0, 0) hD]; rfl, frozen_of_row w' D 8 _ _ hD⟩, h1.below ((hb.mono (show D ≤ D + 1 by omega)).setCell (p := ⟨D, 8, none⟩) (Nat.le_refl D) _), by rw [heap_setCell_same w' D 8 _ _ _ hD]; rfl, key h3', by simpa using key ho, fun k hk e => ?_⟩
  rw [hv] at e
  simp only [Option.some.injEq] at e
  subst e
  rcases hat with h6 | h6
  · exact h5 gg hk h6
  · have := (h3.lt gg hk).2; omega
end
end Go.Proofs.YteciobkjfmddcaaGreatDoor
set_option linter.unusedVariables false
namespace Go.Proofs.YteciobkjfmddcaaGreatDoor
open Go.RowKit

theorem owns_drawn {B : Nat} {w w' : World} {base : Nat} {e : TypeId} {size m : Nat} {v : Value} {xs : List Value} (ho : w.ownsRow base e size v m xs) (hB : B < base) (hg : w.grownBy w' (some B)) : w'.ownsRow base e size v m xs :=
  ho.kept hg (by
    cases hv : v.ownBlock with
    | none => exact .inl rfl
    | some k => exact .inr fun e => by have := (ho.lt k hv).1; simp at e; omega)
def pick4 (i : Nat) : Int := if i = 3 then 1 else 0
theorem pick4_row (w : World) : IntRow (w.alloc (.cells #[.int .i64 0, .int .i64 0, .int .i64 0, .int .i64 1] 3)) (.slice (some ⟨w.heap.size, 0, none⟩) 4 4) 4 pick4 := by
  refine .inr ⟨w.heap.size, 0, 4, rfl, by omega, by omega, fun i hi => ?_, Nat.le_refl _⟩
  rw [Nat.zero_add, cell_of_row _ w.heap.size i _ _ (0, 0) (heap_alloc_new w _)]
  have : i = 0 ∨ i = 1 ∨ i = 2 ∨ i = 3 := by omega
  rcases this with rfl | rfl | rfl | rfl <;> rfl
structure BookI where
  turn : Nat
  field : Nat → TeamD
  win : Int
  ag : Bool
  lad : List Int
  games : List GameD
  opens : Nat
  fair : List Int
  taken : List Int
def BookI.good (n opn : Nat) (b : BookI) : Prop := (b.turn < n ∧ MadeF n b.turn b.field n) ∧ RulesGood b.win b.lad ∧ (SeaL 0 n b.games b.opens ∧ b.opens ≤ opn ∧ b.games.length ≤ 8 * n) ∧
  (b.fair.length = n ∧ ∀ x ∈ b.fair, 0 ≤ x ∧ x ≤ 3) ∧ (b.taken.length = n ∧ ∀ x ∈ b.taken, x = 0 ∨ x = 1)
def BookOwn (base n : Nat) (b : BookI) (vf vl vg vfa vta : Value) (w : World) : Prop :=
  (∃ xf, w.ownsRow base 90 3 vf n xf ∧ ∀ t, t < n → xf[t * 3]? = some (.string (b.field t).nm) ∧ xf[t * 3 + 1]? = some (.int .i64 (b.field t).club) ∧ xf[t * 3 + 2]? = some (.int .i64 (b.field t).seed)) ∧
    w.ownsRow base 3 1 vl b.lad.length (b.lad.map (Value.int .i64)) ∧ w.ownsRow base 93 5 vg b.games.length (gcells b.games) ∧ w.ownsRow base 3 1 vfa b.fair.length (b.fair.map (Value.int .i64)) ∧
    w.ownsRow base 3 1 vta b.taken.length (b.taken.map (Value.int .i64))
def BookDrawn (B : Nat) (a : Option Addr) (len cap : Nat) (g : Nat → Nat) (n opn : Nat) (w : World) (e : Ending) (w' : World) : Prop :=
  ∃ b vf vl vg vfa vta, e = .returned (.agg #[vf, .int .i64 b.win, .int .i64 1, .int .i64 0, vl, .bool b.ag, vg, vfa, vta]) ∧ BookI.good n opn b ∧ BookOwn w.heap.size n b vf vl vg vfa vta w' ∧ Cur B a len cap g w' ∧ w.grownBy w' (some B)
theorem book_end {B : Nat} {a : Option Addr} {len cap : Nat} {g : Nat → Nat} {n opn D : Nat} {b : BookI} {vf vl vg vfa vta : Value} {xf : List Value} {w wr w9 : World} (h1 : b.turn < n) (h2 : MadeF n b.turn b.field n) (h3 : RulesGood b.win b.lad) (h4 : SeaL 0 n b.games b.opens ∧ b.opens ≤ opn ∧ b.games.length ≤ 8 * n)
    (h5 : b.fair.length = n ∧ ∀ x ∈ b.fair, 0 ≤ x ∧ x ≤ 3) (h6 : b.taken.length = n ∧ ∀ x ∈ b.taken, x = 0 ∨ x = 1)
    (hx : ∀ t, t < n → xf[t * 3]? = some (.string (b.field t).nm) ∧ xf[t * 3 + 1]? = some (.int .i64 (b.field t).club) ∧ xf[t * 3 + 2]? = some (.int .i64 (b.field t).seed))
    (hB : BkBox B a len cap g w D n vf xf vl b.lad vg b.games b.win b.ag vfa b.fair vta b.taken wr) (T : Touch w.heap.size (w.heap.size + 1) wr w9) :
    BookDrawn B a len cap g n opn w (.returned (.agg #[vf, .int .i64 b.win, .int .i64 1, .int .i64 0, vl, .bool b.ag, vg, vfa, vta])) w9 := by
  obtain ⟨⟨c1, c2, c3, c4, _, c6, c7, c8, _⟩, _, d3, d4, _⟩ := hB
  have key : ∀ {base : Nat} {e : TypeId} {size m : Nat} {v : Value} {xs : List Value}, wr.ownsRow base e size v m xs → w.heap.size + 1 ≤ base → w9.ownsRow w.heap.size e size v m xs := fun {base e size m v xs} ho hb =>
    owns_mono (owns_touch ho T (InW.of_owns ho) (.inr hb)) (by omega)
  have hb : Below w.heap.size wr w9 := T.below (Nat.le_refl _) c6.size
  refine ⟨b, vf, vl, vg, vfa, vta, rfl, ⟨⟨h1, h2⟩, h3, h4, h5, h6⟩, ⟨⟨xf, key c2 (Nat.le_refl _), hx⟩, key c3 (Nat.le_refl _), key c4 (Nat.le_refl _), key d3 (by omega), key d4 (by omega)⟩, c1.belowW hb c7, ?_⟩
  exact ⟨hb.os.trans c6.os, hb.tape.trans c6.tape, hb.output.trans c6.output, Nat.le_trans c6.size hb.size, fun k hk hne => (hb.block k hk).trans (c6.block k hk hne)⟩
set_option maxRecDepth 100000 in
set_option maxHeartbeats 8000000 in
theorem l07Book_any (B : Nat) (a : Option Addr) (len cap : Nat) (g : Nat → Nat) (n opn : Nat) (w : World) (hc : Cur B a len cap g w) (h1 : 1 ≤ n) (hn : n ≤ 6) (ho : opn ≤ 1000) :
    Calls Tryz.prog 13 #[.pointer (some ⟨B, 0, none⟩), .int .i64 (n : Int), .int .i64 (opn : Int)] w (BookDrawn B a len cap g n opn w) := by
  obtain ⟨i0, hi, hz0, hz1, hz2⟩ := info_parts Tryz.infoI
  have hlB := hc.ltW
  have LF := Lib.hid (fun w1 hc => l02Field_any B a len cap g n w1 hc h1 hn)
  have LR := Lib.hid (fun w1 hc => l03Draw_any B a len cap g w1 hc)
  have LS := Lib.hid (fun w1 hc => l04Season_any B a len cap g n opn w1 hc (by omega) h1 ho)
  have LB := Lib.hid (fun w1 hc => l01Below_small B a len cap g 4 w1 hc (by omega) (by omega))
  have LP := Lib.hid (fun v w1 hc hv hB => l01Pick_any B a len cap g v 4 pick4 w1 hc (by omega) (by omega) hv hB)
  have HC := Lib.hid hc
  clear hc
  go_enter Tryz.func13, Tryz.ntmps13
  go_wp2_with fail
  refine (LF.out _ (HC.out.belowW ((Below.refl _ _).alloc (Nat.le_refl _) _) hlB)).mono ?_
  rintro e w1 ⟨vf, GF, turn, xf, rfl, hturn, hmade, of1, hxf, c1, g1⟩
  have R1 : Hid (w1.heap[w.heap.size]? = some (.cells #[.slice none 0 0, .int .i64 0, .int .i64 0, .int .i64 0, .slice none 0 0, .bool false, .slice none 0 0, .slice none 0 0, .slice none 0 0] 29 (0, 0))) := by
    show _ = _
    rw [g1.block _ (by simp) (by intro e; simp at e; omega)]; exact heap_alloc_new w _
  have G1 : Hid (w.grownBy w1 (some B)) := grown_trans (World.grownBy_alloc w _ _) g1
  have z1 : w.heap.size + 1 ≤ w1.heap.size := by have := g1.size; simpa using this
  have OF := Lib.hid (owns_mono of1 (base' := w.heap.size + 1) (by simp))
  have C1 := Lib.hid c1
  have HT := Lib.hid (And.intro hturn hmade)
  have HX := Lib.hid hxf
  clear c1 g1 of1 hturn hmade hxf HC LF
  go_wp2_with fail
  refine (LR.out _ C1.out).mono ?_
  rintro e w2 ⟨vl, win, ag, LL, rfl, hgood, ol2, c2, g2⟩
  have hvf := OF.out.lt
  have R2 : Hid (w2.heap[w.heap.size]? = some (.cells #[.slice none 0 0, .int .i64 0, .int .i64 0, .int .i64 0, .slice none 0 0, .bool false, .slice none 0 0, .slice none 0 0, .slice none 0 0] 29 (0, 0))) := (g2.block _ (by omega) (by intro e; simp at e; omega)).trans R1.out
  have G2 := Lib.hid (grown_trans G1.out g2)
  have z2 := g2.size
  have OF2 := Lib.hid (owns_drawn OF.out (by omega) g2)
  have OL := Lib.hid (owns_mono ol2 (base' := w.heap.size + 1) z1)
  have C2 := Lib.hid c2
  have HGd := Lib.hid hgood
  clear c2 g2 ol2 hgood C1 G1 R1 OF LR
  go_wp2_with fail
  refine (LS.out _ C2.out).mono ?_
  rintro e w3 ⟨vg, LG, m, rfl, hLG, hm, hLGl, og3, c3, g3⟩
  have hvl := OL.out.lt
  have R3 : Hid (w3.heap[w.heap.size]? = some (.cells #[.slice none 0 0, .int .i64 0, .int .i64 0, .int .i64 0, .slice none 0 0, .bool false, .slice none 0 0, .slice none 0 0, .slice none 0 0] 29 (0, 0))) := (g3.block _ (by omega) (by intro e; simp at e; omega)).trans R2.out
  have G3 := Lib.hid (grown_trans G2.out g3)
  have z3 := g3.size
  have OF3 := Lib.hid (owns_drawn OF2.out (by omega) g3)
  have OL3 := Lib.hid (owns_drawn OL.out (by omega) g3)
  have OG3 := Lib.hid (owns_mono og3 (base' := w.heap.size + 1) (by omega))
  have hvg := OG3.out.lt
  have C3 := Lib.hid c3
  have HLG := Lib.hid hLG
  clear c3 g3 og3 hLG C2 G2 R2 OF2 OL LS
  have FX : BkFix B a len cap g w w3.heap.size n vf xf vl LL vg LG (w3.alloc (.cells #[vf, .int .i64 win, .int .i64 1, .int .i64 0, vl, .bool ag, vg, .slice none 0 0, .slice none 0 0] 29)) :=
    have hb := (Below.refl w3.heap.size w3).alloc (Nat.le_refl _) (.cells #[vf, .int .i64 win, .int .i64 1, .int .i64 0, vl, .bool ag, vg, .slice none 0 0, .slice none 0 0] 29)
    ⟨C3.out.belowW hb C3.out.ltW, owns_below OF3.out hb (Nat.le_refl _), owns_below OL3.out hb (Nat.le_refl _), owns_below OG3.out hb (Nat.le_refl _), (hb.block _ (by omega)).trans R3.out, grown_to G3.out hb, hlB, by omega, by simp, fun k hk => by have := (hvf k hk).2; omega, fun k hk => by have := (hvl k hk).2; omega, fun k hk => (hvg k hk).2⟩
  have BX : BkBox B a len cap g w w3.heap.size n vf xf vl LL vg LG win ag (.slice none 0 0) [] (.slice none 0 0) [] (w3.alloc (.cells #[vf, .int .i64 win, .int .i64 1, .int .i64 0, vl, .bool ag, vg, .slice none 0 0, .slice none 0 0] 29)) :=
    ⟨FX, heap_alloc_new w3 _, World.ownsRow_nil _ _ _ _, World.ownsRow_nil _ _ _ _, fun k hk => by simp [Value.ownBlock] at hk⟩
  obtain ⟨saf, scf, rfl⟩ := owns_form OF3.out
  obtain ⟨sal, scl, rfl⟩ := owns_form OL3.out
  obtain ⟨sag, scg, rfl⟩ := owns_form OG3.out
  have HBX := Lib.hid BX
  clear BX FX OF3 OL3 OG3 hvf hvl hvg C3 G3 R3
  go_wp2
  generalize hD : w3.heap.size = D at *
  clear hD z1 z2 z3
  go_loopw [8] (fun i wr => ∃ (k : Nat) (F T : List Int) (vfa vta : Value), k ≤ n ∧ i = .int .i64 k ∧ F.length = k ∧ T.length = k ∧ Hid ((∀ x ∈ F, 0 ≤ x ∧ x ≤ 3) ∧ ∀ x ∈ T, x = 0 ∨ x = 1) ∧ Hid (BkBox B a len cap g w D n (.slice saf n scf) xf (.slice sal LL.length scl) LL (.slice sag LG.length scg) LG win ag vfa F vta T wr)) (fun i _ => n - (RowKit.intOf i).toNat)
  case atStart => exact ⟨0, [], [], _, _, Nat.zero_le _, rfl, rfl, rfl, ⟨fun x hx => by simp at hx, fun x hx => by simp at hx⟩, HBX.out⟩
  case round =>
    clear HBX
    obtain ⟨k, F, T, vfa, vta, hk, rfl, hFl, hTl, hFT, hBX⟩ := hrel
    have HFl := Lib.hid hFl
    have HTl := Lib.hid hTl
    obtain ⟨s7a, s7c, rfl⟩ := owns_form hBX.out.2.2.1
    obtain ⟨s8a, s8c, rfl⟩ := owns_form hBX.out.2.2.2.1
    by_cases hlt : k < n
    · have hF6 : F.length ≤ 6 := by omega
      have hT6 : T.length ≤ 6 := by omega
      clear hFl hTl
      have k7 := hBX.out.cell 7
      go_wp2_with fail
      refine Await.begin (S := Until 7 fun w' => w'.cell? ⟨D, 7, none⟩ = some (.slice s7a F.length s7c)) (by kernel_rfl) ?_ (fun hS => ?_)
      · exact Until.of k7
      have FE : Hid (∀ wa : World, wa.cell? ⟨D, 7, none⟩ = some (.slice s7a F.length s7c) → wa.cell? ⟨D, 7, none⟩ = some (.slice s7a F.length s7c)) := fun _ h => h
      have hBX0 := Lib.hid (hBX.out.below (Below.refl _ _).drew)
      clear k7
      generalize wr.drew = wd at *
      refine Await.pure (i := 0) (v := ?_) rfl (by kernel_rfl) (by kernel_rfl) (by kernel_rfl) (by kernel_rfl) (fun _ _ _ h => h) (Or.inl ⟨by rfl, ?_⟩) (by assumption) ?_
      rotate_left
      · (intro wa _; go_simp; try with_reducible rfl)
      simp only [Act.put, List.getElem_toArray, List.getElem_cons_zero, List.setIfInBounds_toArray, List.set_cons_zero, List.set_cons_succ]
      refine Await.take (i := 1) (p := 5) (v := ?_) rfl (by kernel_rfl) (by kernel_rfl) (by kernel_rfl) (by kernel_rfl) (fun _ _ _ h => h) (Or.inl ⟨by rfl, ?_⟩) (by assumption) ?_
      rotate_left
      · (intro wa hSw; have hSw2 := FE.out wa hSw; go_simp; try with_reducible rfl)
      simp only [Act.put, List.getElem_toArray, List.getElem_cons_zero, List.getElem_cons_succ, List.setIfInBounds_toArray, List.set_cons_zero, List.set_cons_succ]
      refine Await.pure (i := 2) (v := ?_) rfl (by kernel_rfl) (by kernel_rfl) (by kernel_rfl) (by kernel_rfl) (fun _ _ _ h => h) (Or.inl ⟨by rfl, ?_⟩) (by assumption) ?_
      rotate_left
      · (intro wa _; go_simp; try with_reducible rfl)
      simp only [Act.put, List.getElem_toArray, List.getElem_cons_zero, List.getElem_cons_succ, List.setIfInBounds_toArray, List.set_cons_zero, List.set_cons_succ]
      refine Await.step (i := 3) (o := _) (by kernel_rfl) rfl (fun K1 hK1' => ?_)
      go_simp
      refine (LB.out _ hBX0.out.cur).mono ?_
      rintro e wa ⟨y, hy, rfl, cy, gy⟩
      have hBX1 := Lib.hid (hBX0.out.drawn cy gy)
      clear cy gy hBX0
      (try go_wp2_with fail)
      refine hK1'.out _ _ ?_ (fun hS => ?_)
      · exact Until.of (hBX1.out.cell 7)
      clear hK1' K1
      refine Await.step (i := 4) (o := _) (by kernel_rfl) rfl (fun K1 hK1' => ?_)
      have hBX1b := Lib.hid (hBX1.out.below ((Below.refl _ _).alloc (Nat.le_refl _) (.cells #[.int .i64 (y : Int)] 3)))
      have hn8 := heap_alloc_new wa (.cells #[.int .i64 (y : Int)] 3)
      go_simp
      refine hK1'.out _ _ ?_ (fun hS => ?_)
      · exact Until.of (hBX1b.out.cell 7)
      clear hK1' K1
      generalize hX8 : wa.heap.size = X8 at *
      generalize wa.alloc (.cells #[.int .i64 (y : Int)] 3) = wb at *
      refine Await.step (i := 5) (o := _) (by kernel_rfl) rfl (fun K1 hK1' => ?_)
      refine step_append_lies _ (by rfl) (.tmp 25) (.tmp 28) 24 (by rfl) (D + 1) 3 i0 (.int .i64 0) 1 8 Tryz.underlying24 hi hz0 hz1 hz2 rfl (by decide) (.slice s7a F.length s7c) F.length (F.map (Value.int .i64)) (by rfl) hBX1b.out.2.2.1 ⟨_, 0, none⟩ 1 1 [.int .i64 (y : Int)] (by rfl) (by simp) (by simpa using World.news_of_block hn8) (by intro u hu; simp at hu; subst hu; rfl) (by omega) (by unfold maxLen; omega) (by omega) hBX1b.out.size _ rfl ?_
      intro gg cc wc5 og gg5 at5 lt5
      obtain ⟨⟨e7, f7⟩, hBX2'⟩ := hBX1b.out.fair og gg5 rfl (at5.imp id fun e => Nat.le_of_eq e.symm)
      have hBXf := Lib.hid hBX2'
      clear hBX2' og gg5 at5 hn8
      refine hK1'.out _ _ ?_ (fun hS => ?_)
      · exact Until.of e7
      clear hK1' K1
      refine Await.pure (i := 6) (v := ?_) rfl (by kernel_rfl) (by kernel_rfl) (by kernel_rfl) (by kernel_rfl) (fun _ _ _ h => h) (Or.inl ⟨by rfl, ?_⟩) (by assumption) ?_
      rotate_left
      · (intro wa _; go_simp; try with_reducible rfl)
      simp only [Act.put, List.getElem_toArray, List.getElem_cons_zero, List.getElem_cons_succ, List.setIfInBounds_toArray, List.set_cons_zero, List.set_cons_succ]
      refine Await.step (i := 7) (o := _) (by kernel_rfl) rfl (fun K1 hK1' => ?_)
      go_simp
      refine hK1'.out _ _ ?_ (fun hS => ?_)
      · exact Until.over (by kernel_rfl)
      clear hK1' K1
      refine Await.done (by kernel_rfl) ?_ _
      generalize wc5.setCell ⟨D, 7, none⟩ (.slice (some ⟨gg, 0, none⟩) (F.length + 1) cc) = we at *
      clear e7 f7 hS FE hBX1 hBX1b hBX lt5
      have k8 := hBXf.out.cell 8
      go_wp2_with fail
      refine Await.begin (S := Until 8 fun w' => w'.cell? ⟨D, 8, none⟩ = some (.slice s8a T.length s8c)) (by kernel_rfl) ?_ (fun hS => ?_)
      · exact Until.of k8
      have FE : Hid (∀ wa : World, wa.cell? ⟨D, 8, none⟩ = some (.slice s8a T.length s8c) → wa.cell? ⟨D, 8, none⟩ = some (.slice s8a T.length s8c)) := fun _ h => h
      have hBX0 := Lib.hid (hBXf.out.below (Below.refl _ _).drew)
      clear k8
      generalize we.drew = wd2 at *
      refine Await.pure (i := 0) (v := ?_) rfl (by kernel_rfl) (by kernel_rfl) (by kernel_rfl) (by kernel_rfl) (fun _ _ _ h => h) (Or.inl ⟨by rfl, ?_⟩) (by assumption) ?_
      rotate_left
      · (intro wa _; go_simp; try with_reducible rfl)
      simp only [Act.put, List.getElem_toArray, List.getElem_cons_zero, List.setIfInBounds_toArray, List.set_cons_zero, List.set_cons_succ]
      refine Await.take (i := 1) (p := 6) (v := ?_) rfl (by kernel_rfl) (by kernel_rfl) (by kernel_rfl) (by kernel_rfl) (fun _ _ _ h => h) (Or.inl ⟨by rfl, ?_⟩) (by assumption) ?_
      rotate_left
      · (intro wa hSw; have hSw2 := FE.out wa hSw; go_simp; try with_reducible rfl)
      simp only [Act.put, List.getElem_toArray, List.getElem_cons_zero, List.getElem_cons_succ, List.setIfInBounds_toArray, List.set_cons_zero, List.set_cons_succ]
      refine Await.pure (i := 2) (v := ?_) rfl (by kernel_rfl) (by kernel_rfl) (by kernel_rfl) (by kernel_rfl) (fun _ _ _ h => h) (Or.inl ⟨by rfl, ?_⟩) (by assumption) ?_
      rotate_left
      · (intro wa _; go_simp; try with_reducible rfl)
      simp only [Act.put, List.getElem_toArray, List.getElem_cons_zero, List.getElem_cons_succ, List.setIfInBounds_toArray, List.set_cons_zero, List.set_cons_succ]
      refine Await.step (i := 3) (o := _) (by kernel_rfl) rfl (fun K1 hK1' => ?_)
      have hBX0b := Lib.hid (hBX0.out.below ((Below.refl _ _).alloc (Nat.le_refl _) (.cells #[.int .i64 0, .int .i64 0, .int .i64 0, .int .i64 1] 3)))
      have hpr := pick4_row wd2
      have hnB : (Value.slice (some ⟨wd2.heap.size, 0, none⟩) 4 4).ownBlock ≠ some B := by have := hBX0.out.size; have := hBX0.out.1.2.2.2.2.2.2.1; have := hBX0.out.1.2.2.2.2.2.2.2.1; simp [Value.ownBlock]; omega
      go_simp
      refine hK1'.out _ _ ?_ (fun hS => ?_)
      · exact Until.of (hBX0b.out.cell 8)
      clear hK1' K1
      generalize wd2.heap.size = X7 at *
      generalize wd2.alloc (.cells #[.int .i64 0, .int .i64 0, .int .i64 0, .int .i64 1] 3) = wg at *
      refine Await.step (i := 4) (o := _) (by kernel_rfl) rfl (fun K1 hK1' => ?_)
      go_simp
      refine (LP.out _ _ hBX0b.out.cur hpr hnB).mono ?_
      rintro e wh ⟨⟨z, hz, rfl⟩, cy, gy⟩
      have hBX1 := Lib.hid (hBX0b.out.drawn cy gy)
      clear cy gy hBX0 hBX0b hpr hnB
      generalize hpz : pick4 z = pz at *
      have HPZ := Lib.hid hpz
      clear hpz
      (try go_wp2_with fail)
      refine hK1'.out _ _ ?_ (fun hS => ?_)
      · exact Until.of (hBX1.out.cell 8)
      clear hK1' K1
      refine Await.step (i := 5) (o := _) (by kernel_rfl) rfl (fun K1 hK1' => ?_)
      have hBX1b := Lib.hid (hBX1.out.below ((Below.refl _ _).alloc (Nat.le_refl _) (.cells #[.int .i64 pz] 3)))
      have hn8 := heap_alloc_new wh (.cells #[.int .i64 pz] 3)
      go_simp
      refine hK1'.out _ _ ?_ (fun hS => ?_)
      · exact Until.of (hBX1b.out.cell 8)
      clear hK1' K1
      generalize hX9 : wh.heap.size = X9 at *
      generalize wh.alloc (.cells #[.int .i64 pz] 3) = wi at *
      refine Await.step (i := 6) (o := _) (by kernel_rfl) rfl (fun K1 hK1' => ?_)
      refine step_append_lies _ (by rfl) (.tmp 32) (.tmp 36) 24 (by rfl) (D + 1) 3 i0 (.int .i64 0) 1 8 Tryz.underlying24 hi hz0 hz1 hz2 rfl (by decide) (.slice s8a T.length s8c) T.length (T.map (Value.int .i64)) (by rfl) hBX1b.out.2.2.2.1 ⟨_, 0, none⟩ 1 1 [.int .i64 pz] (by rfl) (by simp) (by simpa using World.news_of_block hn8) (by intro u hu; simp at hu; subst hu; rfl) (by omega) (by unfold maxLen; omega) (by omega) hBX1b.out.size _ rfl ?_
      intro gg2 cc2 wc6 og gg6 at6 lt6
      obtain ⟨⟨e8, f8⟩, hBX2'⟩ := hBX1b.out.taken og gg6 rfl (at6.imp id fun e => Nat.le_of_eq e.symm)
      have hBX2 := Lib.hid hBX2'
      clear hBX2' og gg6 at6 hn8
      refine hK1'.out _ _ ?_ (fun hS => ?_)
      · exact Until.of e8
      clear hK1' K1
      refine Await.pure (i := 7) (v := ?_) rfl (by kernel_rfl) (by kernel_rfl) (by kernel_rfl) (by kernel_rfl) (fun _ _ _ h => h) (Or.inl ⟨by rfl, ?_⟩) (by assumption) ?_
      rotate_left
      · (intro wa _; go_simp; try with_reducible rfl)
      simp only [Act.put, List.getElem_toArray, List.getElem_cons_zero, List.getElem_cons_succ, List.setIfInBounds_toArray, List.set_cons_zero, List.set_cons_succ]
      refine Await.step (i := 8) (o := _) (by kernel_rfl) rfl (fun K1 hK1' => ?_)
      go_simp
      refine hK1'.out _ _ ?_ (fun hS => ?_)
      · exact Until.over (by kernel_rfl)
      clear hK1' K1
      refine Await.done (by kernel_rfl) ?_ _
      generalize wc6.setCell ⟨D, 8, none⟩ (.slice (some ⟨gg2, 0, none⟩) (T.length + 1) cc2) = wj at *
      clear e8 f8 hS FE hBX1 hBX1b hBXf lt6
      rw [← HPZ.out] at hBX2
      go_wp2
      go_roundw
      case rel => exact ⟨k + 1, F ++ [(y : Int)], T ++ [pick4 z], _, _, by omega, by go_num, by simp; exact HFl.out, by simp; exact HTl.out, ⟨fun x hx => by
        rw [List.mem_append, List.mem_singleton] at hx
        rcases hx with hx | rfl
        · exact hFT.out.1 x hx
        · omega, fun x hx => by
        rw [List.mem_append, List.mem_singleton] at hx
        rcases hx with hx | rfl
        · exact hFT.out.2 x hx
        · unfold pick4; split <;> omega⟩, hBX2⟩
      case measure => simp [RowKit.intOf]; omega
    · obtain rfl : k = n := by omega
      obtain ⟨hfx, hbx, hfa, hta, hdis⟩ := hBX.out
      have hRlt : w.heap.size < wr.heap.size := (Array.getElem?_eq_some_iff.1 hfx.2.2.2.2.1).1
      have hDlt : D < wr.heap.size := (Array.getElem?_eq_some_iff.1 hbx).1
      have hRD : w.heap.size < D := hfx.2.2.2.2.2.2.2.1
      have n1 : ¬ (w.heap.size = D) := by omega
      have n2 : ¬ (D = w.heap.size) := by omega
      have k0 : wr.cell? ⟨D, 0, none⟩ = some (.slice saf k scf) := cell_of_row wr D 0 _ _ (0, 0) hbx
      have k1 : wr.cell? ⟨D, 1, none⟩ = some (.int .i64 win) := cell_of_row wr D 1 _ _ (0, 0) hbx
      have k2 : wr.cell? ⟨D, 2, none⟩ = some (.int .i64 1) := cell_of_row wr D 2 _ _ (0, 0) hbx
      have k3 : wr.cell? ⟨D, 3, none⟩ = some (.int .i64 0) := cell_of_row wr D 3 _ _ (0, 0) hbx
      have k4 : wr.cell? ⟨D, 4, none⟩ = some (.slice sal LL.length scl) := cell_of_row wr D 4 _ _ (0, 0) hbx
      have k5 : wr.cell? ⟨D, 5, none⟩ = some (.bool ag) := cell_of_row wr D 5 _ _ (0, 0) hbx
      have k6 : wr.cell? ⟨D, 6, none⟩ = some (.slice sag LG.length scg) := cell_of_row wr D 6 _ _ (0, 0) hbx
      have k7 : wr.cell? ⟨D, 7, none⟩ = some (.slice s7a F.length s7c) := cell_of_row wr D 7 _ _ (0, 0) hbx
      have k8 : wr.cell? ⟨D, 8, none⟩ = some (.slice s8a T.length s8c) := cell_of_row wr D 8 _ _ (0, 0) hbx
      have q0 : wr.cell? ⟨w.heap.size, 0, none⟩ = some (.slice none 0 0) := cell_of_row wr w.heap.size 0 _ _ (0, 0) hfx.2.2.2.2.1
      have r0 := frozen_of_row wr w.heap.size 0 _ _ hfx.2.2.2.2.1
      have q1 : wr.cell? ⟨w.heap.size, 1, none⟩ = some (.int .i64 0) := cell_of_row wr w.heap.size 1 _ _ (0, 0) hfx.2.2.2.2.1
      have r1 := frozen_of_row wr w.heap.size 1 _ _ hfx.2.2.2.2.1
      have q2 : wr.cell? ⟨w.heap.size, 2, none⟩ = some (.int .i64 0) := cell_of_row wr w.heap.size 2 _ _ (0, 0) hfx.2.2.2.2.1
      have r2 := frozen_of_row wr w.heap.size 2 _ _ hfx.2.2.2.2.1
      have q3 : wr.cell? ⟨w.heap.size, 3, none⟩ = some (.int .i64 0) := cell_of_row wr w.heap.size 3 _ _ (0, 0) hfx.2.2.2.2.1
      have r3 := frozen_of_row wr w.heap.size 3 _ _ hfx.2.2.2.2.1
      have q4 : wr.cell? ⟨w.heap.size, 4, none⟩ = some (.slice none 0 0) := cell_of_row wr w.heap.size 4 _ _ (0, 0) hfx.2.2.2.2.1
      have r4 := frozen_of_row wr w.heap.size 4 _ _ hfx.2.2.2.2.1
      have q5 : wr.cell? ⟨w.heap.size, 5, none⟩ = some (.bool false) := cell_of_row wr w.heap.size 5 _ _ (0, 0) hfx.2.2.2.2.1
      have r5 := frozen_of_row wr w.heap.size 5 _ _ hfx.2.2.2.2.1
      have q6 : wr.cell? ⟨w.heap.size, 6, none⟩ = some (.slice none 0 0) := cell_of_row wr w.heap.size 6 _ _ (0, 0) hfx.2.2.2.2.1
      have r6 := frozen_of_row wr w.heap.size 6 _ _ hfx.2.2.2.2.1
      have q7 : wr.cell? ⟨w.heap.size, 7, none⟩ = some (.slice none 0 0) := cell_of_row wr w.heap.size 7 _ _ (0, 0) hfx.2.2.2.2.1
      have r7 := frozen_of_row wr w.heap.size 7 _ _ hfx.2.2.2.2.1
      have q8 : wr.cell? ⟨w.heap.size, 8, none⟩ = some (.slice none 0 0) := cell_of_row wr w.heap.size 8 _ _ (0, 0) hfx.2.2.2.2.1
      have r8 := frozen_of_row wr w.heap.size 8 _ _ hfx.2.2.2.2.1
      clear hfx hbx hfa hta hdis hFl hTl
      go_wp2
      refine bodyPost_ret (v := .agg #[.slice saf k scf, .int .i64 win, .int .i64 1, .int .i64 0, .slice sal LL.length scl, .bool ag, .slice sag LG.length scg, .slice s7a F.length s7c, .slice s8a T.length s8c]) (by simp [results, Tryz.results13, go_sem, q0, q1, q2, q3, q4, q5, q6, q7, q8]) rfl ?_
      refine book_end (b := ⟨turn, GF, win, ag, LL, LG, m, F, T⟩) HT.out.1 HT.out.2 HGd.out ⟨HLG.out, hm, hLGl⟩ ⟨HFl.out, hFT.out.1⟩ ⟨HTl.out, hFT.out.2⟩ HX.out hBX.out ?_
      iterate 9 (refine Touch.setCell ?_ _ _ (by simp) (by simp))
      exact Touch.refl _ _ _
def BookIs (w : World) (e : Ending) (w' : World) : Prop :=
  ∃ n b vf vl vg vfa vta, (3 ≤ n ∧ n ≤ 5) ∧ e = .returned (.agg #[vf, .int .i64 b.win, .int .i64 1, .int .i64 0, vl, .bool b.ag, vg, vfa, vta]) ∧ BookI.good n 3 b ∧ BookOwn w.heap.size n b vf vl vg vfa vta w' ∧ Below w.heap.size w w'
theorem BookOwn.form {base n : Nat} {b : BookI} {vf vl vg vfa vta : Value} {w : World} (h : BookOwn base n b vf vl vg vfa vta w) :
    ∃ a1 c1 a2 c2 a3 c3 a4 c4 a5 c5, vf = .slice a1 n c1 ∧ vl = .slice a2 b.lad.length c2 ∧ vg = .slice a3 b.games.length c3 ∧ vfa = .slice a4 b.fair.length c4 ∧ vta = .slice a5 b.taken.length c5 := by
  obtain ⟨⟨xf, h1, _⟩, h2, h3, h4, h5⟩ := h
  obtain ⟨a1, c1, e1⟩ := owns_form h1
  obtain ⟨a2, c2, e2⟩ := owns_form h2
  obtain ⟨a3, c3, e3⟩ := owns_form h3
  obtain ⟨a4, c4, e4⟩ := owns_form h4
  obtain ⟨a5, c5, e5⟩ := owns_form h5
  exact ⟨a1, c1, a2, c2, a3, c3, a4, c4, a5, c5, e1, e2, e3, e4, e5⟩
theorem BookOwn.touch {base lo n : Nat} {b : BookI} {vf vl vg vfa vta : Value} {w w' : World} (h : BookOwn base n b vf vl vg vfa vta w) (T : Touch lo (lo + 1) w w') (hlo : lo + 1 ≤ base) : BookOwn lo n b vf vl vg vfa vta w' := by
  have key : ∀ {e : TypeId} {size m : Nat} {v : Value} {xs : List Value}, w.ownsRow base e size v m xs → w'.ownsRow lo e size v m xs := fun {e size m v xs} ho => owns_mono (owns_touch ho T (InW.of_owns ho) (.inr hlo)) (by omega)
  obtain ⟨⟨xf, h1, h0⟩, h2, h3, h4, h5⟩ := h
  exact ⟨⟨xf, key h1, h0⟩, key h2, key h3, key h4, key h5⟩
set_option maxRecDepth 100000 in
set_option maxHeartbeats 2000000 in
theorem makeBook_any (a : Option Addr) (len cap : Nat) (g : Nat → Nat) (w : World) (hr : ByteRow w a len g) (hg : ∀ i, g i ≤ 255) (hl : len ≤ 1048576) :
    Calls Tryz.prog 4 #[.slice a len cap] w (BookIs w) := by
  have C := Lib.hid (fun w1 hr => l01New_any a len cap g w1 hr hg hl)
  have L1 := Lib.hid (fun B w1 hc => l01Below_small B a len cap g 3 w1 hc (by omega) (by omega))
  have L2 := Lib.hid (fun B n w1 hc (h1 : 1 ≤ n) (h2 : n ≤ 6) => l07Book_any B a len cap g n 3 w1 hc h1 h2 (by omega))
  have HR := Lib.hid hr
  clear hr hg hl
  go_enter Tryz.func4, Tryz.ntmps4
  go_wp2_with fail
  refine (C.out _ (HR.out.below ((Below.refl _ w).alloc (Nat.le_refl _) _) (Nat.le_refl _))).mono ?_
  rintro e w1 ⟨B, rfl, hB, hc, hb⟩
  have hs := hb.size
  have HB := Lib.hid hb
  have HC := Lib.hid hc
  have hBs : w.heap.size + 1 ≤ B := by simpa using hB
  clear C hc hb HR hB
  go_wp2_with fail
  refine (L1.out B _ HC.out).mono ?_
  rintro e w2 ⟨x, hx, rfl, c2, g2⟩
  have C2 := Lib.hid c2
  have HB2 : Hid (Below (w.heap.size + 1) (w.alloc (.cells #[.slice none 0 0, .int .i64 0, .int .i64 0, .int .i64 0, .slice none 0 0, .bool false, .slice none 0 0, .slice none 0 0, .slice none 0 0] 29)) w2) := by
    have h1 := HB.out.grown g2 hs fun k hk => by cases hk; simpa using hBs
    show Below _ _ _
    simpa using h1
  have z2 := g2.size
  clear c2 g2 L1 HC
  go_wp2_with fail
  rw [show (3 : Int) + (x : Int) = ((3 + x : Nat) : Int) by omega]
  refine (L2.out B (3 + x) _ C2.out (by omega) (by omega)).mono ?_
  rintro e w3 ⟨b, vf, vl, vg, vfa, vta, rfl, hgood, hown, c3, g3⟩
  have hz1 : (w.alloc (.cells #[.slice none 0 0, .int .i64 0, .int .i64 0, .int .i64 0, .slice none 0 0, .bool false, .slice none 0 0, .slice none 0 0, .slice none 0 0] 29)).heap.size = w.heap.size + 1 := by simp
  have b3 : Below (w.heap.size + 1) (w.alloc (.cells #[.slice none 0 0, .int .i64 0, .int .i64 0, .int .i64 0, .slice none 0 0, .bool false, .slice none 0 0, .slice none 0 0, .slice none 0 0] 29)) w3 := HB2.out.grown g3 (by omega) fun k hk => by cases hk; exact hBs
  have bz := BoxN.made (u := w) (by rw [hz1]; exact b3) (B := w.heap.size) rfl
  have hlt : w.heap.size < w3.heap.size := bz.1
  have q0 := bz.2 0 _ rfl
  have q1 := bz.2 1 _ rfl
  have q2 := bz.2 2 _ rfl
  have q3 := bz.2 3 _ rfl
  have q4 := bz.2 4 _ rfl
  have q5 := bz.2 5 _ rfl
  have q6 := bz.2 6 _ rfl
  have q7 := bz.2 7 _ rfl
  have q8 := bz.2 8 _ rfl
  have f0 := fun j => BoxN.free (u := w) (by rw [hz1]; exact b3) (B := w.heap.size) rfl j
  have hs2 : w.heap.size + 1 ≤ w2.heap.size := by omega
  obtain ⟨a1, c1, a2, c2, a3, c3', a4, c4, a5, c5, rfl, rfl, rfl, rfl, rfl⟩ := hown.form
  have HO := Lib.hid hown
  have HG := Lib.hid hgood
  have B3 := Lib.hid b3
  clear hown hgood c3 g3 b3 bz hz1 HB HB2 C2 L2 hs
  go_wp2
  refine bodyPost_ret (v := .agg #[.slice a1 (3 + x) c1, .int .i64 b.win, .int .i64 1, .int .i64 0, .slice a2 b.lad.length c2, .bool b.ag, .slice a3 b.games.length c3', .slice a4 b.fair.length c4, .slice a5 b.taken.length c5]) (by simp [results, Tryz.results4, go_sem, q0, q1, q2, q3, q4, q5, q6, q7, q8]) rfl ?_
  refine ⟨3 + x, b, _, _, _, _, _, by omega, rfl, HG.out, HO.out.touch (lo := w.heap.size) ?_ hs2, ?_⟩
  · iterate 9 (refine Touch.setCell ?_ _ _ (by simp) (by simp))
    exact Touch.refl _ _ _
  · iterate 9 (refine Below.setCell ?_ (by simp) _)
    exact ((Below.refl _ w).alloc (Nat.le_refl _) _).trans (B3.out.mono (by omega))
end Go.Proofs.YteciobkjfmddcaaGreatDoor
set_option linter.unusedVariables false
namespace Go.Proofs.YteciobkjfmddcaaGreatDoor
open Go.RowKit

theorem idxL_mem (p : Nat → Bool) (k : Nat) : ∀ n, (k : Int) ∈ idxL p n ↔ k < n ∧ p k = true := by
  intro n
  induction n with
  | zero => simp [idxL]
  | succ n ih =>
    unfold idxL
    by_cases h : p n = true
    · rw [if_pos h, List.mem_append, ih, List.mem_singleton]
      constructor
      · rintro (⟨h1, h2⟩ | h1)
        · exact ⟨by omega, h2⟩
        · obtain rfl : k = n := by omega
          exact ⟨by omega, h⟩
      · rintro ⟨h1, h2⟩
        by_cases e : k = n
        · exact .inr (by rw [e])
        · exact .inl ⟨by omega, h2⟩
    · rw [if_neg h, ih]
      constructor
      · rintro ⟨h1, h2⟩; exact ⟨by omega, h2⟩
      · rintro ⟨h1, h2⟩
        have : k ≠ n := fun e => h (e ▸ h2)
        exact ⟨by omega, h2⟩
theorem has_any (v : Value) (n : Nat) (g : Nat → Int) (x : Int) (R : Bool) (w : World) (hR : R = true ↔ hasP g x n) (h : IntRow w v n g) :
    Calls Tryz.prog 7 #[v, .int .i64 x] w fun e w' => e = .returned (.bool R) ∧ Below w.heap.size w w' := by
  obtain ⟨a, cap, rfl, hn, hv⟩ := h.form
  have HV := Lib.hid hv
  have HN : Hid (∀ k, k < n → g k = x → R = true) := fun k hk he => hR.2 ⟨k, hk, he⟩
  have HE : Hid ((∀ j, j < n → g j ≠ x) → R = false) := fun hno => by
    cases R with
    | false => rfl
    | true => obtain ⟨j, hj, he⟩ := hR.1 rfl; exact absurd he (hno j hj)
  clear hv h hR
  go_enter Tryz.func7, Tryz.ntmps7
  go_wp2
  go_loop [9] (fun i => ∃ k : Nat, k ≤ n ∧ i = .int .i64 k ∧ Hid (∀ j, j < k → g j ≠ x)) (fun i => n - (RowKit.intOf i).toNat)
  case atStart => exact ⟨0, Nat.zero_le _, rfl, fun j hj => absurd hj (by omega)⟩
  case round =>
    obtain ⟨k, hk, rfl, hno⟩ := hrel
    by_cases hlt : k < n
    · obtain ⟨b, off, rfl, hc⟩ := HV.out (by omega)
      have c1 := hc k hlt
      have H1 := Lib.hid (HN.out k hlt)
      have H2 : Hid (g k ≠ x → ∀ j, j < k + 1 → g j ≠ x) := fun h j hj => by
        by_cases hjk : j = k
        · rw [hjk]; exact h
        · exact hno.out j (by omega)
      clear hc HV hno HN HE
      generalize g k = y at *
      by_cases hx : y = x
      · obtain rfl := H1.out hx
        have g1 : (y == x) = true := by simpa using hx
        have HX := Lib.hid hx
        clear H1 H2 hx
        go_wp2
        go_ret
        exact ⟨rfl, Below.refl _ _⟩
      · have g1 : (y == x) = false := beq_eq_false_iff_ne.2 hx
        have HX := Lib.hid (H2.out hx)
        clear H1 H2 hx
        go_wp2
        go_round
        case rel => exact ⟨k + 1, by omega, by go_num, HX.out⟩
        case measure => simp [RowKit.intOf]; omega
    · obtain rfl : k = n := by omega
      obtain rfl := HE.out hno.out
      clear hno HN HE
      go_wp2
      go_ret
      exact ⟨rfl, Below.refl _ _⟩
def getG (L : List GameD) (i : Nat) : GameD := L.getD i default
theorem getG_mem {L : List GameD} {i : Nat} (h : i < L.length) : getG L i ∈ L := by
  simp only [getG, List.getD_eq_getElem?_getD, List.getElem?_eq_getElem h, Option.getD_some]; exact List.getElem_mem h
theorem gcells_at (L : List GameD) : RecCells 5 L.length (gcells L) fun i => (getG L i).cells := by
  have hrec : ∀ (M : List GameD) (i : Nat), i < M.length → ∀ j u, (getG M i).cells[j]? = some u → (gcells M)[i * 5 + j]? = some u := by
    intro M
    induction M with
    | nil => intro i hi; simp at hi
    | cons x l ih =>
      intro i hi j u hu
      have hj : j < 5 := (List.getElem?_eq_some_iff.1 hu).1
      cases i with
      | zero =>
        have : gcells (x :: l) = x.cells ++ gcells l := by simp [gcells]
        rw [this, List.getElem?_append_left (by show 0 * 5 + j < 5; omega), Nat.zero_mul, Nat.zero_add]
        exact hu
      | succ i =>
        have : gcells (x :: l) = x.cells ++ gcells l := by simp [gcells]
        rw [this, List.getElem?_append_right (by show 5 ≤ (i + 1) * 5 + j; omega), show (i + 1) * 5 + j - x.cells.length = i * 5 + j by show (i + 1) * 5 + j - 5 = _; omega]
        exact ih i (by simpa using hi) j u hu
  exact hrec L
theorem GameRow.of_list {w : World} {base : Nat} {e : TypeId} {v : Value} {L : List GameD} (h : w.ownsRow base e 5 v L.length (gcells L)) (hn : L.length ≤ 9223372036854775807) : GameRow w v L.length (getG L) :=
  GameRow.of_owns h hn (gcells_at L)
theorem sea_game {n : Nat} {L : List GameD} {m : Nat} (h : SeaL 0 n L m) (hn : 2 ≤ n) (hn8 : n ≤ 8) (i : Nat) (hi : i < L.length) : gameP n (getG L i) := by
  obtain ⟨h1, h2, h3⟩ := h.1 _ (getG_mem hi)
  exact ⟨by omega, by omega, by omega, by omega, h2, by omega⟩
theorem sea_first {n : Nat} {L : List GameD} {m : Nat} (h : SeaL 0 n L m) (i : Nat) (hi : i < L.length) : firstI (atG (getG L) (getG L i).home (getG L i).away) L.length 0 = (i : Int) := by
  refine (firstI_eq L.length 0 i).2 ⟨by omega, by simp [atG], fun j _ hj => ?_⟩
  have hp := List.pairwise_iff_getElem.1 h.2.1 j i (by omega) hi hj
  have ej : getG L j = L[j]'(by omega) := by simp only [getG, List.getD_eq_getElem?_getD, List.getElem?_eq_getElem (show j < L.length by omega), Option.getD_some]
  have ei : getG L i = L[i] := by simp only [getG, List.getD_eq_getElem?_getD, List.getElem?_eq_getElem hi, Option.getD_some]
  unfold atG
  rw [ej, ei]
  rw [Bool.and_eq_false_iff, beq_eq_false_iff_ne, beq_eq_false_iff_ne]
  by_cases e : (L[j]'(by omega)).home = L[i].home
  · exact .inr fun e2 => hp.1 ⟨e, e2⟩
  · exact .inl e
theorem sea_season {n : Nat} {L : List GameD} {m : Nat} (h : SeaL 0 n L m) (hn : 2 ≤ n) (hn8 : n ≤ 8) (hl : L.length ≤ 60) : seasonP n L.length (getG L) :=
  ⟨hl, fun i hi => ⟨sea_game h hn hn8 i hi, sea_first h i hi⟩⟩
theorem play_outcome (t : GameD) (o : Int) (h : 1 ≤ o ∧ o ≤ 3) : outcomeD (playD t o) = o := by
  have : o = 1 ∨ o = 2 ∨ o = 3 := by omega
  unfold outcomeD playD
  rcases this with rfl | rfl | rfl <;> simp [goalsD]
theorem play_game {n : Int} {t : GameD} (o : Int) (h : 1 ≤ o ∧ o ≤ 3) (hg : gameP n t) : gameP n (playD t o) := by
  obtain ⟨h1, h2, h3, h4, h5, h6⟩ := hg
  have : o = 1 ∨ o = 2 ∨ o = 3 := by omega
  unfold playD
  rw [if_pos h]
  exact ⟨h1, h2, h3, h4, by simp, .inl ⟨rfl, by simp only; split <;> omega, by simp only; split <;> omega⟩⟩
theorem play_teams (t : GameD) (o : Int) : (playD t o).home = t.home ∧ (playD t o).away = t.away := by
  unfold playD
  split <;> exact ⟨rfl, rfl⟩
theorem play_closed (t : GameD) (o : Int) (h : 1 ≤ o ∧ o ≤ 3) : ((playD t o).st == 0) = false := by
  unfold playD; rw [if_pos h]; rfl
theorem play_none (t : GameD) : playD t 0 = t := by unfold playD; rw [if_neg (by omega)]
end Go.Proofs.YteciobkjfmddcaaGreatDoor
set_option linter.unusedVariables false
namespace Go.Proofs.YteciobkjfmddcaaGreatDoor
open Go.RowKit

theorem addW_swap (a b c : RowD) : addW (addW a b) c = addW (addW a c) b := by
  have h : ∀ x y z : Int, wrap64 (wrap64 (x + y) + z) = wrap64 (wrap64 (x + z) + y) := fun x y z => by unfold wrap64; omega
  unfold addW
  simp only [h _ b.played c.played, h _ b.wins c.wins, h _ b.draws c.draws, h _ b.losses c.losses, h _ b.scored c.scored, h _ b.against c.against, h _ b.points c.points]
def addAt (win draw loss : Int) (x : GameD) (i : Nat) (r : RowD) : RowD :=
  if (goalsD x).2.2 = true then if i = x.home.toNat then addW r (homeR win draw loss x) else if i = x.away.toNat then addW r (awayR win draw loss x) else r else r
theorem addG_pt {win draw loss : Int} {x : GameD} (hne : x.home.toNat ≠ x.away.toNat) (r : Nat → RowD) (i : Nat) : addG win draw loss r x i = addAt win draw loss x i (r i) := by
  unfold addG addAt putR
  split
  · by_cases h1 : i = x.away.toNat
    · subst h1
      simp only [if_true, if_neg (Ne.symm hne)]
    · by_cases h2 : i = x.home.toNat
      · subst h2; simp [h1]
      · simp [h1, h2]
  · rfl
theorem addAt_swap {win draw loss : Int} (x y : GameD) (i : Nat) (r : RowD) : addAt win draw loss y i (addAt win draw loss x i r) = addAt win draw loss x i (addAt win draw loss y i r) := by
  unfold addAt
  repeat' split
  all_goals first | rfl | exact addW_swap _ _ _
def tabF (win draw loss : Int) (sel : GameD → Bool) (i : Nat) (L : List GameD) (r : RowD) : RowD := L.foldl (fun r x => if sel x = true then addAt win draw loss x i r else r) r
theorem tabR_list {win draw loss : Int} {sel : GameD → Bool} {L : List GameD} (hL : ∀ x ∈ L, x.home.toNat ≠ x.away.toNat) (i : Nat) : ∀ k, k ≤ L.length → tabR win draw loss sel (getG L) k i = tabF win draw loss sel i (L.take k) zeroR
  | 0, _ => rfl
  | k + 1, hk => by
    have hx : L[k]? = some (getG L k) := by simp [getG, List.getD_eq_getElem?_getD, List.getElem?_eq_getElem (show k < L.length by omega)]
    have ht : L.take (k + 1) = L.take k ++ [getG L k] := by
      obtain ⟨h1, h2⟩ := List.getElem?_eq_some_iff.1 hx
      rw [← List.take_append_getElem h1, h2]
    have ih := tabR_list (win := win) (draw := draw) (loss := loss) (sel := sel) hL i k (by omega)
    unfold tabF at ih ⊢
    rw [ht, List.foldl_append]
    simp only [List.foldl_cons, List.foldl_nil]
    show (if sel (getG L k) = true then addG win draw loss (tabR win draw loss sel (getG L) k) (getG L k) else tabR win draw loss sel (getG L) k) i = _
    split
    · rw [addG_pt (hL _ (List.mem_of_getElem? hx)), ih]
    · exact ih
theorem tabF_perm {win draw loss : Int} {sel : GameD → Bool} {i : Nat} {L L' : List GameD} (h : L.Perm L') (r : RowD) : tabF win draw loss sel i L r = tabF win draw loss sel i L' r := by
  unfold tabF
  refine h.foldl_eq' (fun x _ y _ z => ?_) r
  by_cases h1 : sel x = true <;> by_cases h2 : sel y = true <;> simp [h1, h2, addAt_swap x y]
theorem tab_perm {win draw loss : Int} {sel : GameD → Bool} {L L' : List GameD} (h : L.Perm L') (hL : ∀ x ∈ L, x.home.toNat ≠ x.away.toNat) : tabR win draw loss sel (getG L) L.length = tabR win draw loss sel (getG L') L'.length := by
  funext i
  rw [tabR_list hL i _ (Nat.le_refl _), tabR_list (fun x hx => hL x (h.mem_iff.2 hx)) i _ (Nat.le_refl _), List.take_length, List.take_length]
  exact tabF_perm h _
end Go.Proofs.YteciobkjfmddcaaGreatDoor
set_option linter.unusedVariables false
namespace Go.Proofs.YteciobkjfmddcaaGreatDoor
open Go.RowKit

def fromP (b : BookD) (n : Nat) (gg : Nat → Int) (z : Int) : Prop := bookP b ∧ teamsP b.nf n gg ∧ 0 ≤ z ∧ ∀ i, i < n → ¬ hasP gg (gg i) i
theorem ListsL.none {w w' : World} (h : Below w.heap.size w w') : ListsL w [] (.returned (.slice none 0 0)) w' :=
  ⟨_, [], rfl, rfl, ⟨⟨rfl, .inl ⟨rfl, rfl⟩⟩, (fun x hx => by cases hx), (by unfold ApartL; simp)⟩, h⟩
def allL (n : Nat) : List Int := valsL (fun i => (i : Int)) n
theorem allL_len (n : Nat) : (allL n).length = n := by unfold allL valsL; simp
theorem allL_get {n i : Nat} (h : i < n) : getI (allL n) i = i := by unfold allL valsL getI; simp [h]
theorem all_from {b : BookD} : fromP b (allL b.nf).length (getI (allL b.nf)) 0 ↔ bookP b := by
  rw [allL_len]
  refine ⟨fun h => h.1, fun h => ⟨h, fun i hi => by rw [allL_get hi]; omega, Int.le_refl _, fun i hi ⟨j, hj, e⟩ => ?_⟩⟩
  rw [allL_get hi, allL_get (by omega)] at e
  omega
def orderL (L : List (List Int)) : List Int := if ∀ p ∈ L, p.length = 1 then L.flatten else []
theorem flat_ones : ∀ (L : List (List Int)), (∀ p ∈ L, p.length = 1) → L.flatten.length = L.length
  | [], _ => rfl
  | p :: L, h => by
    rw [List.flatten_cons, List.length_append, h p (List.mem_cons_self ..), flat_ones L fun q hq => h q (List.mem_cons_of_mem _ hq)]
    simp; omega
theorem LL.kept {w w' : World} {B : Nat} {v : Value} {T : List (Value × List Int)} {row : Option Nat} (h : LL w B v T) (hg : w.grownBy w' row) (h1 : ∀ q, row = some q → Hid (v.ownBlock ≠ some q ∧ ∀ x ∈ T, x.1.ownBlock ≠ some q)) : LL w' B v T := by
  refine ⟨h.1.kept hg ?_, fun x hx => (h.2.1 x hx).kept hg ?_, h.2.2⟩
  · cases hr : row with
    | none => cases hv : v.ownBlock with
      | none => exact .inl rfl
      | some q => exact .inr (by simp)
    | some q => exact .inr fun e => (h1 q hr).out.1 e
  · cases hr : row with
    | none => cases hv : x.1.ownBlock with
      | none => exact .inl rfl
      | some q => exact .inr (by simp)
    | some q => exact .inr fun e => (h1 q hr).out.2 x hx e
theorem IntsL.none {w w' : World} (h : Below w.heap.size w w') : IntsL w [] (.returned (.slice none 0 0)) w' :=
  ⟨_, rfl, ⟨rfl, .inl ⟨rfl, rfl⟩⟩, h⟩
end Go.Proofs.YteciobkjfmddcaaGreatDoor
set_option linter.unusedVariables false
namespace Go.Proofs.YteciobkjfmddcaaGreatDoor
open Go.RowKit

theorem allL_nodup (n : Nat) : (allL n).Nodup := by
  unfold allL valsL
  refine List.Pairwise.map _ (fun a b h e => h (by omega)) List.nodup_range
theorem allL_mem {n : Nat} {u : Int} : u ∈ allL n ↔ 0 ≤ u ∧ u < n := by
  unfold allL valsL
  rw [List.mem_map]
  constructor
  · rintro ⟨i, hi, rfl⟩
    have := List.mem_range.1 hi
    omega
  · rintro ⟨h1, h2⟩
    exact ⟨u.toNat, List.mem_range.2 (by omega), by omega⟩
end Go.Proofs.YteciobkjfmddcaaGreatDoor
set_option linter.unusedVariables false
namespace Go.Proofs.YteciobkjfmddcaaGreatDoor
open Go.RowKit

theorem madeNm_eq {i : Nat} (h : i < 10) : madeNm i = ⟨#[116, UInt8.ofNat (48 + i)]⟩ := by
  unfold madeNm
  rw [itoa_pos _ (by omega), Int.toNat_natCast, Lib.decDigits_one h]
  rfl
theorem madeNm_ok : ∀ i : Nat, i < 6 → nameB (madeNm i) = true := by
  intro i h
  rw [madeNm_eq (by omega)]
  have : i = 0 ∨ i = 1 ∨ i = 2 ∨ i = 3 ∨ i = 4 ∨ i = 5 := by omega
  rcases this with rfl | rfl | rfl | rfl | rfl | rfl <;> decide
theorem madeNm_inj {i j : Nat} (hi : i < 6) (hj : j < 6) (h : madeNm i = madeNm j) : i = j := by
  rw [madeNm_eq (by omega), madeNm_eq (by omega)] at h
  have key : ∀ a b : Fin 6, UInt8.ofNat (48 + a.val) = UInt8.ofNat (48 + b.val) → a = b := by decide
  have e : UInt8.ofNat (48 + i) = UInt8.ofNat (48 + j) := by
    have := congrArg (fun b : ByteArray => b.data.toList) h
    simpa using this
  have := key ⟨i, hi⟩ ⟨j, hj⟩ e
  simpa using this
theorem madeSeed_inj {n turn i j : Nat} (hn : 2 ≤ n ∧ n ≤ 6) (hi : i < n) (hj : j < n) (h : (i + turn) % n = (j + turn) % n) : i = j := by
  have : n = 2 ∨ n = 3 ∨ n = 4 ∨ n = 5 ∨ n = 6 := by omega
  rcases this with rfl | rfl | rfl | rfl | rfl <;> omega
section
variable {n : Nat} {G : Nat → TeamD}
theorem FieldGood.field (h : FieldGood n G) : fieldP n G := by
  obtain ⟨hn, ⟨turn, ht, hm⟩, _⟩ := h
  refine ⟨by omega, fun i hi => ⟨⟨?_, ?_, ?_⟩, fun j hj => ⟨fun e => ?_, fun e => ?_⟩⟩⟩
  · rw [(hm i hi).1]; exact madeNm_ok i (by omega)
  · have := (hm i hi).2.1; omega
  · have := (hm i hi).2.2
    have := Nat.mod_lt (i + turn) (show 0 < n by omega)
    omega
  · rw [(hm i hi).1, (hm j (by omega)).1] at e
    have := madeNm_inj (by omega) (by omega) e
    omega
  · rw [(hm i hi).2.2, (hm j (by omega)).2.2] at e
    have := madeSeed_inj (turn := turn) hn (show j < n by omega) hi (by omega)
    omega
end
end Go.Proofs.YteciobkjfmddcaaGreatDoor
set_option linter.unusedVariables false
namespace Go.Proofs.YteciobkjfmddcaaGreatDoor
open Go.RowKit

theorem getI_zero {K : List Int} (h : drawnL K) : getI K 0 = 1 := by
  obtain ⟨h1, _, _⟩ := h
  cases K with
  | nil => simp at h1
  | cons x l => simp at h1; simp [getI, h1]
theorem drawn_pos {K : List Int} (h : drawnL K) : 0 < K.length := by
  obtain ⟨h1, _, _⟩ := h
  cases K with
  | nil => simp at h1
  | cons x l => simp
theorem drawn_in {K : List Int} (h : drawnL K) (i : Nat) (hi : i < K.length) : 1 ≤ getI K i ∧ getI K i ≤ 7 := by
  by_cases h0 : i = 0
  · subst h0; rw [getI_zero h]; omega
  · have := h.2.1 i (by omega) hi; omega
theorem lad_drawn {K : List Int} (h : drawnL K) (hl : K.length ≤ 4) : ladP K.length (getI K) :=
  ⟨by have := drawn_pos h; omega, fun i hi => ⟨by have := drawn_in h i hi; omega, fun ⟨j, hj, he⟩ => h.2.2 j i hj hi he⟩⟩
theorem lad_full {K : List Int} (h : drawnL K) (hl : K.length ≤ 4) : ladP (K.length + 1) (getI (K ++ [8])) := by
  refine ⟨by omega, fun i hi => ?_⟩
  by_cases e : i = K.length
  · subst e
    rw [getI_last]
    refine ⟨by omega, fun ⟨j, hj, he⟩ => ?_⟩
    rw [getI_left _ _ _ hj] at he
    have := drawn_in h j hj; omega
  · rw [getI_left _ _ _ (by omega)]
    refine ⟨by have := drawn_in h i (by omega); omega, fun ⟨j, hj, he⟩ => ?_⟩
    rw [getI_left _ _ _ (by omega)] at he
    exact h.2.2 j i hj (by omega) he
theorem good_rules {win : Int} {K : List Int} (hw : win = 2 ∨ win = 3) (h : drawnL K) (hl : K.length ≤ 4) : rulesP win 1 0 (K.length + 1) (getI (K ++ [8])) :=
  ⟨by omega, by omega, by omega, lad_full h hl⟩
end Go.Proofs.YteciobkjfmddcaaGreatDoor
set_option linter.unusedVariables false
namespace Go.Proofs.YteciobkjfmddcaaGreatDoor
open Go.RowKit

def caseB (n : Nat) (b : BookI) (LG : List GameD) : BookD :=
  { nf := n, f := fun i => if i < n then b.field i else ⟨ByteArray.empty, 0, 0⟩, win := b.win, draw := 1, loss := 0, nl := b.lad.length, l := getI b.lad, again := b.ag, m := LG.length, g := getG LG, nfa := b.fair.length, fa := getI b.fair, nta := b.taken.length, ta := getI b.taken }
theorem case_names {n : Nat} {b : BookI} {LG : List GameD} {turn : Nat} (h : MadeF n turn b.field n) (hn : n ≤ 8) : ∀ i, ((caseB n b LG).f i).nm.size ≤ maxLen := fun i => by
  show (if i < n then b.field i else ⟨ByteArray.empty, 0, 0⟩ : TeamD).nm.size ≤ maxLen
  by_cases hi : i < n
  · rw [if_pos hi, (h i hi).1]
    have e2 : madeNm i = ⟨#[116, UInt8.ofNat (48 + i)]⟩ := by
      unfold madeNm
      rw [itoa_pos _ (by omega), Int.toNat_natCast, Lib.decDigits_one (by omega)]
      rfl
    rw [e2]
    show (2 : Nat) ≤ maxLen
    unfold maxLen
    omega
  · rw [if_neg hi]
    show (0 : Nat) ≤ maxLen
    omega
theorem case_field {n turn : Nat} {b : BookI} {LG : List GameD} (hn : 2 ≤ n ∧ n ≤ 6) (ht : turn < n) (h : MadeF n turn b.field n) : FieldGood n (caseB n b LG).f := by
  refine ⟨hn, ⟨turn, ht, fun i hi => ?_⟩, fun i hi => ?_⟩
  · show (if i < n then b.field i else ⟨ByteArray.empty, 0, 0⟩ : TeamD).nm = _ ∧ _
    have e : (caseB n b LG).f i = b.field i := by show (if i < n then b.field i else ⟨ByteArray.empty, 0, 0⟩ : TeamD) = _; rw [if_pos hi]
    have := h i hi
    rw [← e] at this
    exact this
  · show (if i < n then b.field i else ⟨ByteArray.empty, 0, 0⟩ : TeamD) = _
    rw [if_neg (by omega)]
theorem case_book {n opn : Nat} {b : BookI} {LG : List GameD} (hn : 2 ≤ n ∧ n ≤ 6) (hg : BookI.good n opn b) (hs : seasonP n LG.length (getG LG)) : bookP (caseB n b LG) := by
  obtain ⟨⟨h1, h2⟩, ⟨hw, K, hK, hd, hK4⟩, _, ⟨hf, hf2⟩, ht, ht2⟩ := hg
  refine ⟨(case_field hn h1 h2).field, ?_, hs, hf, ht, fun i hi => ?_⟩
  · have := good_rules hw hd hK4
    show rulesP b.win 1 0 b.lad.length (getI b.lad)
    rw [hK, List.length_append]
    exact this
  · have hi' : i < n := hi
    have e1 : getI b.fair i ∈ b.fair := by simp [getI, show i < b.fair.length by omega]
    have e2 : getI b.taken i ∈ b.taken := by simp [getI, show i < b.taken.length by omega]
    have h3 := hf2 _ e1
    have h4 := ht2 _ e2
    refine ⟨⟨?_, ?_⟩, ?_, ?_⟩
    · show 0 ≤ getI b.fair i; omega
    · show getI b.fair i ≤ 1000; omega
    · show 0 ≤ getI b.taken i; omega
    · show getI b.taken i ≤ 1000; omega
theorem case_first {n opn : Nat} {b : BookI} {LG : List GameD} (hg : BookI.good n opn b) : 0 < (caseB n b LG).nl ∧ (caseB n b LG).l 0 = 1 := by
  obtain ⟨_, ⟨hw, K, hK, hd, hK4⟩, _⟩ := hg
  have hp := drawn_pos hd
  refine ⟨?_, ?_⟩
  · show 0 < b.lad.length
    rw [hK, List.length_append]; simp
  · show getI b.lad 0 = 1
    rw [hK, getI_left _ _ _ hp]
    exact getI_zero hd
theorem case_last {n opn : Nat} {b : BookI} {LG : List GameD} (hg : BookI.good n opn b) : ∃ j, 0 ≤ j ∧ j < (caseB n b LG).nl ∧ (caseB n b LG).l j = 8 := by
  obtain ⟨_, ⟨hw, K, hK, hd, hK4⟩, _⟩ := hg
  refine ⟨K.length, Nat.zero_le _, ?_, ?_⟩
  · show K.length < b.lad.length
    rw [hK, List.length_append]; simp
  · show getI b.lad K.length = 8
    rw [hK]; exact getI_last _ _
end Go.Proofs.YteciobkjfmddcaaGreatDoor
set_option linter.unusedVariables false
namespace Go.Proofs.YteciobkjfmddcaaGreatDoor
open Go.RowKit

def permL (k : Nat) (L : List Int) : Prop := L.length = k ∧ (∀ x ∈ L, 0 ≤ x ∧ x < k) ∧ (∀ i : Nat, i < k → (i : Int) ∈ L) ∧ L.Nodup
theorem gapA_mem' {α : Type} {L : List α} {j : Nat} {u y : α} : y ∈ gapA L j u ↔ y = u ∨ y ∈ L := by
  refine ⟨gapA_mem, fun h => ?_⟩
  unfold gapA
  rcases h with rfl | h
  · simp
  · rw [← List.take_append_drop j L] at h
    rcases List.mem_append.1 h with h | h
    · exact List.mem_append_left _ h
    · exact List.mem_append_right _ (List.mem_cons_of_mem _ h)
theorem permL.more {k j : Nat} {L : List Int} (h : permL k L) (hj : j ≤ k) : permL (k + 1) (gapA L j (k : Int)) := by
  obtain ⟨h1, h2, h3, h4⟩ := h
  refine ⟨by rw [gapA_len (by omega), h1], fun x hx => ?_, fun i hi => ?_, ?_⟩
  · rcases gapA_mem'.1 hx with rfl | hx
    · omega
    · have := h2 x hx; omega
  · by_cases e : i = k
    · subst e; exact gapA_mem'.2 (.inl rfl)
    · exact gapA_mem'.2 (.inr (h3 i (by omega)))
  · refine gapA_pairwise h4 (fun y hy e => ?_) fun y hy e => ?_
    · have := h2 y hy; omega
    · have := h2 y hy; omega
def OrdS (B : Nat) (a : Option Addr) (len cap : Nat) (g : Nat → Nat) (w0 : World) (v : Value) (n : Nat) (L : List Int) (w : World) : Prop :=
  Cur B a len cap g w ∧ w.ownsRow w0.heap.size 3 1 v n (L.map (Value.int .i64)) ∧ w0.grownBy w (some B) ∧ B < w0.heap.size
section
variable {B : Nat} {a : Option Addr} {len cap : Nat} {g : Nat → Nat} {w0 w w' : World} {v : Value} {n : Nat} {L : List Int}
theorem OrdS.drawn (h : OrdS B a len cap g w0 v n L w) (hc : Cur B a len cap g w') (hg : w.grownBy w' (some B)) : OrdS B a len cap g w0 v n L w' :=
  ⟨hc, owns_drawn h.2.1 h.2.2.2 hg, grown_trans h.2.2.1 hg, h.2.2.2⟩
theorem OrdS.push {gg cc : Nat} {x : Int} (h : OrdS B a len cap g w0 v n L w) (ho : w'.ownsRow w0.heap.size 3 1 (.slice (some ⟨gg, 0, none⟩) (n + 1) cc) (n + 1) (L.map (Value.int .i64) ++ [.int .i64 x])) (hg : w.grownBy w' v.ownBlock) : OrdS B a len cap g w0 (.slice (some ⟨gg, 0, none⟩) (n + 1) cc) (n + 1) (L ++ [x]) w' := by
  have hb : Below w0.heap.size w w' := (Below.refl _ _).grown hg h.2.2.1.size (fun k hk => (h.2.1.lt k hk).1)
  refine ⟨h.1.belowW hb h.2.2.2, by rw [List.map_append]; exact ho, ?_, h.2.2.2⟩
  exact ⟨hb.os.trans h.2.2.1.os, hb.tape.trans h.2.2.1.tape, hb.output.trans h.2.2.1.output, Nat.le_trans h.2.2.1.size hb.size, fun k hk hne => (hb.block k hk).trans (h.2.2.1.block k hk hne)⟩
theorem OrdS.set {gg cc : Nat} (h : OrdS B a len cap g w0 (.slice (some ⟨gg, 0, none⟩) n cc) n L w) (j : Nat) (x : Int) : OrdS B a len cap g w0 (.slice (some ⟨gg, 0, none⟩) n cc) n (L.set j x) (w.setCell ⟨gg, j, none⟩ (.int .i64 x)) := by
  have hb : Below w0.heap.size w (w.setCell ⟨gg, j, none⟩ (.int .i64 x)) := (Below.refl _ _).setCell (h.2.1.lt gg rfl).1 _
  refine ⟨h.1.belowW hb h.2.2.2, by rw [List.map_set]; exact (h.2.1.stored j _).1, ?_, h.2.2.2⟩
  exact ⟨hb.os.trans h.2.2.1.os, hb.tape.trans h.2.2.1.tape, hb.output.trans h.2.2.1.output, Nat.le_trans h.2.2.1.size hb.size, fun k hk hne => (hb.block k hk).trans (h.2.2.1.block k hk hne)⟩
end
def OrdMade (B : Nat) (a : Option Addr) (len cap : Nat) (g : Nat → Nat) (n : Nat) (w : World) (e : Ending) (w' : World) : Prop :=
  ∃ v L, e = .returned v ∧ permL n L ∧ OrdS B a len cap g w v n L w'
def OrderMade (n : Nat) (w : World) (e : Ending) (w' : World) : Prop := ∃ v L, e = .returned v ∧ permL n L ∧ w'.ownsRow w.heap.size 3 1 v n (L.map (Value.int .i64)) ∧ Below w.heap.size w w'
end Go.Proofs.YteciobkjfmddcaaGreatDoor
