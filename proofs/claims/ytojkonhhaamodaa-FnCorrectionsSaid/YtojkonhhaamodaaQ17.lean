/-
  Packed: CaseMake, NotesMake, CanonImpl, CanonWalk, Standing.
-/
import Derived.Test.YtojkonhhaamodaaLaysK
import Derived.Lib.SlKeysI
import Derived.Test.YtojkonhhaamodaaQ10
import Derived.Test.YtojkonhhaamodaaQ15
import Derived.Test.YtojkonhhaamodaaQ16
set_option linter.unusedVariables false
namespace Go.Proofs.Ytojkonhhaamodaa
open Go.RowKit

theorem Try.infoSent : (Try.prog.info? 70).map (fun i => (i.zero, i.size, i.bytes)) = some (some (.agg #[.int .i64 0, .slice none 0 0]), 2, 32) := by kernel_rfl
/-- the slices of a made book but for its games -/
def BkRows (base n : Nat) (b : BookI) (vf vl vfa vta : Value) (w : World) : Prop :=
  (∃ xf, w.ownsRow base 100 3 vf n xf ∧ ∀ t, t < n → xf[t * 3]? = some (.string (b.field t).nm) ∧ xf[t * 3 + 1]? = some (.int .i64 (b.field t).club) ∧ xf[t * 3 + 2]? = some (.int .i64 (b.field t).seed)) ∧
    w.ownsRow base 3 1 vl b.lad.length (b.lad.map (Value.int .i64)) ∧ w.ownsRow base 3 1 vfa b.fair.length (b.fair.map (Value.int .i64)) ∧ w.ownsRow base 3 1 vta b.taken.length (b.taken.map (Value.int .i64))
def LowV (D : Nat) (v : Value) : Prop := ∀ k, v.ownBlock = some k → k < D
/-- all of a case but for its list of announcements, in blocks below D -/
def CaseS (B : Nat) (a : Option Addr) (len cap : Nat) (g : Nat → Nat) (w0 : World) (vg : Value) (LG : List GameD) (nv : Value) (LN : List NoteD) (n : Nat) (b : BookI) (vf vl vfa vta : Value) (X R D : Nat) (w : World) : Prop :=
  NtS B a len cap g w0 vg LG nv LN w ∧ BkRows w0.heap.size n b vf vl vfa vta w ∧ BoxF w X [vf, .int .i64 b.win, .int .i64 1, .int .i64 0, vl, .bool b.ag, vg, vfa, vta] ∧ BoxF w R [.slice none 0 0, .int .i64 0, .int .i64 0, .int .i64 0, .slice none 0 0, .bool false, .slice none 0 0, .slice none 0 0, .slice none 0 0] ∧
    (w0.heap.size ≤ X ∧ X < D ∧ R < w0.heap.size ∧ B ≠ R ∧ D ≤ w.heap.size) ∧ (LowV D vg ∧ LowV D nv ∧ LowV D vf ∧ LowV D vl ∧ LowV D vfa ∧ LowV D vta)
theorem BoxF.belowD {w w' : World} {B D : Nat} {cs : List Value} (h : BoxF w B cs) (hb : Below D w w') (hB : B < D) : BoxF w' B cs :=
  ⟨Nat.lt_of_lt_of_le h.1 hb.size, fun j v hv => ⟨(hb.cell (p := ⟨B, j, none⟩) hB).trans (h.2 j v hv).1, (hb.frozen (p := ⟨B, j, none⟩) hB).trans (h.2 j v hv).2⟩⟩
section
variable {B : Nat} {a : Option Addr} {len cap : Nat} {g : Nat → Nat} {w0 : World} {vg : Value} {LG : List GameD} {nv : Value} {LN : List NoteD} {n : Nat} {b : BookI} {vf vl vfa vta : Value} {X R D base : Nat} {w w' : World}
theorem BkRows.belowD (h : BkRows base n b vf vl vfa vta w) (hb : Below D w w') (h1 : LowV D vf) (h2 : LowV D vl) (h3 : LowV D vfa) (h4 : LowV D vta) : BkRows base n b vf vl vfa vta w' := by
  obtain ⟨⟨xf, k1, k0⟩, k2, k3, k4⟩ := h
  exact ⟨⟨xf, owns_kept k1 hb h1, k0⟩, owns_kept k2 hb h2, owns_kept k3 hb h3, owns_kept k4 hb h4⟩
theorem BkRows.drawn (h : BkRows base n b vf vl vfa vta w) (hB : B < base) (hg : w.grownBy w' (some B)) : BkRows base n b vf vl vfa vta w' := by
  obtain ⟨⟨xf, k1, k0⟩, k2, k3, k4⟩ := h
  exact ⟨⟨xf, owns_drawn k1 hB hg, k0⟩, owns_drawn k2 hB hg, owns_drawn k3 hB hg, owns_drawn k4 hB hg⟩
theorem CaseS.belowD (h : CaseS B a len cap g w0 vg LG nv LN n b vf vl vfa vta X R D w) (hb : Below D w w') : CaseS B a len cap g w0 vg LG nv LN n b vf vl vfa vta X R D w' := by
  obtain ⟨h1, h2, h3, h4, h5, h6⟩ := h
  have hs := h1.size
  have hBD : B < D := by have := h1.2.2.2.2.1; omega
  refine ⟨⟨h1.1.belowW hb hBD, owns_kept h1.2.1 hb h6.1, owns_kept h1.2.2.1 hb h6.2.1, grown_below' h1.2.2.2.1 hb (by omega), h1.2.2.2.2⟩, h2.belowD hb h6.2.2.1 h6.2.2.2.1 h6.2.2.2.2.1 h6.2.2.2.2.2, h3.belowD hb h5.2.1, h4.belowD hb (by omega), ⟨h5.1, h5.2.1, h5.2.2.1, h5.2.2.2.1, Nat.le_trans h5.2.2.2.2 hb.size⟩, h6⟩
theorem CaseS.drawn (h : CaseS B a len cap g w0 vg LG nv LN n b vf vl vfa vta X R D w) (hc : Cur B a len cap g w') (hg : w.grownBy w' (some B)) : CaseS B a len cap g w0 vg LG nv LN n b vf vl vfa vta X R D w' := by
  obtain ⟨h1, h2, h3, h4, h5, h6⟩ := h
  have hB := h1.2.2.2.2.1
  exact ⟨h1.drawn hc hg, h2.drawn hB hg, h3.grown hg (by simp; omega), h4.grown hg (by simp; exact h5.2.2.2.1), ⟨h5.1, h5.2.1, h5.2.2.1, h5.2.2.2.1, Nat.le_trans h5.2.2.2.2 hg.size⟩, h6⟩
theorem CaseS.below (h : CaseS B a len cap g w0 vg LG nv LN n b vf vl vfa vta X R D w) (hb : Below w.heap.size w w') : CaseS B a len cap g w0 vg LG nv LN n b vf vl vfa vta X R D w' := h.belowD (hb.mono h.2.2.2.2.1.2.2.2.2)
end
theorem BkRows.touch {base lo hi n : Nat} {b : BookI} {vf vl vfa vta : Value} {w w' : World} (h : BkRows base n b vf vl vfa vta w) (t : Touch lo hi w w') (ho : hi ≤ base) : BkRows base n b vf vl vfa vta w' := by
  obtain ⟨⟨xf, k1, k0⟩, k2, k3, k4⟩ := h
  exact ⟨⟨xf, owns_touch k1 t (InW.of_owns k1) (.inr ho), k0⟩, owns_touch k2 t (InW.of_owns k2) (.inr ho), owns_touch k3 t (InW.of_owns k3) (.inr ho), owns_touch k4 t (InW.of_owns k4) (.inr ho)⟩
theorem BkRows.mono {base base' n : Nat} {b : BookI} {vf vl vfa vta : Value} {w : World} (h : BkRows base n b vf vl vfa vta w) (hb : base' ≤ base) : BkRows base' n b vf vl vfa vta w := by
  obtain ⟨⟨xf, k1, k0⟩, k2, k3, k4⟩ := h
  exact ⟨⟨xf, owns_mono k1 hb, k0⟩, owns_mono k2 hb, owns_mono k3 hb, owns_mono k4 hb⟩
/-- the state seen from outside, the result's block written -/
theorem NtS.out {B : Nat} {a : Option Addr} {len cap : Nat} {g : Nat → Nat} {w w0 w1 w2 : World} {vg : Value} {LG : List GameD} {nv : Value} {LN : List NoteD} {lo : Nat} (h : NtS B a len cap g w0 vg LG nv LN w1) (hal : Below lo w w0) (t : Touch lo (lo + 1) w1 w2) (hs : w0.heap.size = w.heap.size + 1) (hBw : B < w.heap.size) (hlo : lo = w.heap.size := by rfl) : NtS B a len cap g w vg LG nv LN w2 := by
  obtain ⟨h1, h2, h3, h4, h5, h6⟩ := h
  have hsz := h4.size
  have hb : Below lo w1 w2 := t.below (Nat.le_refl _) (by omega)
  refine ⟨h1.belowW hb (by omega), owns_mono (owns_touch h2 t (InW.of_owns h2) (.inr (by omega))) (by omega), owns_mono (owns_touch h3 t (InW.of_owns h3) (.inr (by omega))) (by omega), ⟨?_, ?_, ?_, ?_, fun k hk hne => ?_⟩, hBw, h6⟩
  · exact hb.os.trans (h4.os.trans hal.os)
  · exact hb.tape.trans (h4.tape.trans hal.tape)
  · exact hb.output.trans (h4.output.trans hal.output)
  · exact Nat.le_trans hal.size (Nat.le_trans h4.size hb.size)
  · rw [hb.block k (by omega), h4.block k (by omega) hne, hal.block k (by omega)]
/-- a case before its games are put in -/
def CaseA (B : Nat) (a : Option Addr) (len cap : Nat) (g : Nat → Nat) (w0 : World) (vg : Value) (LG : List GameD) (nv : Value) (LN : List NoteD) (n : Nat) (b : BookI) (vf vl vfa vta vg0 : Value) (X R : Nat) (w : World) : Prop :=
  NtS B a len cap g w0 vg LG nv LN w ∧ BkRows w0.heap.size n b vf vl vfa vta w ∧ BoxF w X [vf, .int .i64 b.win, .int .i64 1, .int .i64 0, vl, .bool b.ag, vg0, vfa, vta] ∧ BoxF w R [.slice none 0 0, .int .i64 0, .int .i64 0, .int .i64 0, .slice none 0 0, .bool false, .slice none 0 0, .slice none 0 0, .slice none 0 0] ∧ w0.heap.size ≤ X ∧
    (LowV X vg ∧ LowV X nv ∧ LowV X vf ∧ LowV X vl ∧ LowV X vfa ∧ LowV X vta)
/-- with the list of announcements, behind D -/
def CaseL (B : Nat) (a : Option Addr) (len cap : Nat) (g : Nat → Nat) (w0 : World) (vg : Value) (LG : List GameD) (nv : Value) (LN : List NoteD) (n : Nat) (b : BookI) (vf vl vfa vta : Value) (X R D : Nat) (lv : Value) (k : Nat) (w : World) : Prop :=
  CaseS B a len cap g w0 vg LG nv LN n b vf vl vfa vta X R D w ∧ ∃ xs, w.ownsRow D 70 2 lv k xs
section
variable {B : Nat} {a : Option Addr} {len cap : Nat} {g : Nat → Nat} {w0 : World} {vg : Value} {LG : List GameD} {nv : Value} {LN : List NoteD} {n : Nat} {b : BookI} {vf vl vfa vta : Value} {X R D base : Nat} {lv : Value} {k Y : Nat} {cs : List Value} {w w' : World}
theorem CaseL.below (h : CaseL B a len cap g w0 vg LG nv LN n b vf vl vfa vta X R D lv k w) (hb : Below w.heap.size w w') : CaseL B a len cap g w0 vg LG nv LN n b vf vl vfa vta X R D lv k w' := by
  obtain ⟨h1, xs, h2⟩ := h
  exact ⟨h1.below hb, xs, owns_below h2 hb (Nat.le_refl _)⟩
theorem CaseL.drawn (h : CaseL B a len cap g w0 vg LG nv LN n b vf vl vfa vta X R D lv k w) (hc : Cur B a len cap g w') (hg : w.grownBy w' (some B)) : CaseL B a len cap g w0 vg LG nv LN n b vf vl vfa vta X R D lv k w' := by
  obtain ⟨h1, xs, h2⟩ := h
  exact ⟨h1.drawn hc hg, xs, owns_drawn h2 (by have := h1.1.2.2.2.2.1; have := h1.2.2.2.2.1; omega) hg⟩
theorem CaseL.cur (h : CaseL B a len cap g w0 vg LG nv LN n b vf vl vfa vta X R D lv k w) : Cur B a len cap g w := h.1.1.1
theorem CaseA.list {vg0 : Value} (h : CaseA B a len cap g w0 vg LG nv LN n b vf vl vfa vta vg0 X R w) (hR : R < w0.heap.size) (hBR : B ≠ R) : CaseL B a len cap g w0 vg LG nv LN n b vf vl vfa vta X R w.heap.size (.slice (some ⟨w.heap.size, 0, none⟩) 0 0) 0 ((w.setCell ⟨X, 6, none⟩ vg).alloc (.cells #[] 70 )) := by
  obtain ⟨h1, h2, h3, h4, h5, l1, l2, l3, l4, l5, l6⟩ := h
  have hX := h3.1
  have hB := h1.2.2.2.2.1
  have e : (w.setCell ⟨X, 6, none⟩ vg).heap.size = w.heap.size := by simp [World.setCell]
  have hb : Below X w ((w.setCell ⟨X, 6, none⟩ vg).alloc (.cells #[] 70 )) := ((Below.refl _ _).setCell (Nat.le_refl X) vg).alloc (by rw [e]; omega) _
  have hb2 : Below w.heap.size (w.setCell ⟨X, 6, none⟩ vg) ((w.setCell ⟨X, 6, none⟩ vg).alloc (.cells #[] 70 )) := (Below.refl _ _).alloc (by rw [e]; exact Nat.le_refl _) _
  have up : ∀ {v : Value}, LowV X v → LowV w.heap.size v := fun h k hk => Nat.lt_trans (h k hk) hX
  refine ⟨⟨⟨h1.1.belowW hb (by omega), owns_kept h1.2.1 hb l1, owns_kept h1.2.2.1 hb l2, grown_below' h1.2.2.2.1 hb h5, h1.2.2.2.2⟩, h2.belowD hb l3 l4 l5 l6, (h3.set 6 vg (by simp)).belowD hb2 hX, h4.belowD hb (by omega), ⟨h5, hX, hR, hBR, by simp [World.setCell]⟩, up l1, up l2, up l3, up l4, up l5, up l6⟩, [], ?_⟩
  have o := World.ownsRow_lit (e := 70 ) (size := 2) (w.setCell ⟨X, 6, none⟩ vg) #[] 0 (Nat.le_refl _) (by decide) rfl
  rw [e] at o
  exact o
/-- and a box behind D -/
def CaseY (B : Nat) (a : Option Addr) (len cap : Nat) (g : Nat → Nat) (w0 : World) (vg : Value) (LG : List GameD) (nv : Value) (LN : List NoteD) (n : Nat) (b : BookI) (vf vl vfa vta : Value) (X R D : Nat) (lv : Value) (k Y : Nat) (cs : List Value) (w : World) : Prop :=
  CaseL B a len cap g w0 vg LG nv LN n b vf vl vfa vta X R D lv k w ∧ BoxF w Y cs ∧ D ≤ Y ∧ lv.ownBlock ≠ some Y
theorem CaseY.below (h : CaseY B a len cap g w0 vg LG nv LN n b vf vl vfa vta X R D lv k Y cs w) (hb : Below w.heap.size w w') : CaseY B a len cap g w0 vg LG nv LN n b vf vl vfa vta X R D lv k Y cs w' := ⟨h.1.below hb, h.2.1.below hb, h.2.2⟩
theorem CaseY.drawn (h : CaseY B a len cap g w0 vg LG nv LN n b vf vl vfa vta X R D lv k Y cs w) (hc : Cur B a len cap g w') (hg : w.grownBy w' (some B)) : CaseY B a len cap g w0 vg LG nv LN n b vf vl vfa vta X R D lv k Y cs w' :=
  ⟨h.1.drawn hc hg, h.2.1.grown hg (fun e => by have := h.2.2.1; have := h.1.1.1.2.2.2.2.1; have := h.1.1.2.2.2.2.1; simp at e; omega), h.2.2⟩
theorem CaseL.start (h : CaseL B a len cap g w0 vg LG nv LN n b vf vl vfa vta X R D lv k w) (cs : Array Value) (T : TypeId) : CaseY B a len cap g w0 vg LG nv LN n b vf vl vfa vta X R D lv k w.heap.size cs.toList (w.alloc (.cells cs T)) := by
  refine ⟨h.below ((Below.refl _ _).alloc (Nat.le_refl _) _), BoxF.made (Below.refl _ _) rfl, h.1.2.2.2.2.1.2.2.2.2, fun e => ?_⟩
  obtain ⟨_, xs, h2⟩ := h
  have := (h2.lt _ e).2; omega
theorem CaseY.set (h : CaseY B a len cap g w0 vg LG nv LN n b vf vl vfa vta X R D lv k Y cs w) (j : Nat) (u : Value) (hj : j < cs.length) : CaseY B a len cap g w0 vg LG nv LN n b vf vl vfa vta X R D lv k Y (cs.set j u) (w.setCell ⟨Y, j, none⟩ u) := by
  obtain ⟨⟨h1, xs, h2⟩, h3, h4, h5⟩ := h
  exact ⟨⟨h1.belowD ((Below.refl _ _).setCell h4 u), xs, ownsRow_setCell_other h2 h5 u⟩, h3.set j u hj, h4, h5⟩
theorem CaseL.push {lv' : Value} {ys : List Value} (h : CaseL B a len cap g w0 vg LG nv LN n b vf vl vfa vta X R D lv k w) (ho : w'.ownsRow D 70 2 lv' (k + 1) ys) (hg : w.grownBy w' lv.ownBlock) : CaseL B a len cap g w0 vg LG nv LN n b vf vl vfa vta X R D lv' (k + 1) w' := by
  obtain ⟨h1, xs, h2⟩ := h
  exact ⟨h1.belowD ((Below.refl _ _).grown hg h1.2.2.2.2.1.2.2.2.2 (fun q hq => (h2.lt q hq).1)), _, ho⟩
end
/-- a made book with a season, as data -/
def caseB (n : Nat) (b : BookI) (LG : List GameD) : BookD :=
  { nf := n, f := fun i => if i < n then b.field i else ⟨ByteArray.empty, 0, 0⟩, win := b.win, draw := 1, loss := 0, nl := b.lad.length, l := getI b.lad, again := b.ag, m := LG.length, g := getG LG, nfa := b.fair.length, fa := getI b.fair, nta := b.taken.length, ta := getI b.taken }
theorem CaseS.row {B : Nat} {a : Option Addr} {len cap : Nat} {g : Nat → Nat} {w0 : World} {vg : Value} {LG : List GameD} {nv : Value} {LN : List NoteD} {n : Nat} {b : BookI} {vf vl vfa vta : Value} {X R D : Nat} {w : World} (h : CaseS B a len cap g w0 vg LG nv LN n b vf vl vfa vta X R D w) (hs : bookS (caseB n b LG)) :
    BookRow w vf vl vg vfa vta (caseB n b LG) := by
  obtain ⟨h1, ⟨⟨xf, k1, k0⟩, k2, k3, k4⟩, _⟩ := h
  have hs1 : n ≤ 1048576 := hs.1
  have hs2 : b.lad.length ≤ 1048576 := hs.2.1
  have hs3 : LG.length ≤ 1048576 := hs.2.2.1
  have hs4 : b.fair.length ≤ 1048576 := hs.2.2.2.1
  have hs5 : b.taken.length ≤ 1048576 := hs.2.2.2.2
  show TeamRow w vf n (fun i => if i < n then b.field i else ⟨ByteArray.empty, 0, 0⟩) ∧ IntRow w vl b.lad.length (getI b.lad) ∧ GameRow w vg LG.length (getG LG) ∧ IntRow w vfa b.fair.length (getI b.fair) ∧ IntRow w vta b.taken.length (getI b.taken)
  refine ⟨TeamRow.of_owns k1 (by omega) fun t ht => ?_, IntRow.of_list k2 (by omega), GameRow.of_list h1.2.1 (by omega), IntRow.of_list k3 (by omega), IntRow.of_list k4 (by omega)⟩
  have := k0 t ht
  simp only [ht, if_true]
  exact this
theorem case_names {n : Nat} {b : BookI} {LG : List GameD} {turn : Nat} (h : MadeF n turn b.field n) (hn : n ≤ 8) : ∀ i, ((caseB n b LG).f i).nm.size ≤ maxLen := fun i => by
  show (if i < n then b.field i else ⟨ByteArray.empty, 0, 0⟩ : TeamD).nm.size ≤ maxLen
  by_cases hi : i < n
  · rw [if_pos hi, (h i hi).1]
    have e2 : madeNm i = ⟨#[116, UInt8.ofNat (48 + i)]⟩ := by
      unfold madeNm
      rw [itoa_pos _ (by omega), Int.toNat_natCast, Lib.decDigits_one (by omega)]
      rfl
    rw [e2]
    show (2 : Nat) ≤ maxLen
    unfold maxLen
    omega
  · rw [if_neg hi]
    show (0 : Nat) ≤ maxLen
    omega
/-- a book with valid notes has been made -/
def CaseDrawn (B : Nat) (a : Option Addr) (len cap : Nat) (g : Nat → Nat) (w : World) (e : Ending) (w' : World) : Prop :=
  ∃ (n : Nat) (b : BookI) (LG : List GameD) (m : Nat) (LN : List NoteD) (s : Nat) (vf vl vg vfa vta nv lv : Value), (2 ≤ n ∧ n ≤ 4) ∧ e = .returned (.tuple #[.agg #[vf, .int .i64 b.win, .int .i64 1, .int .i64 0, vl, .bool b.ag, vg, vfa, vta], nv, lv]) ∧
    BookI.good n 0 b ∧ SeaL 0 n LG m ∧ LG.length ≤ 8 * n ∧ NGood n LG s LN ∧ LN.length ≤ 12 ∧ BkRows w.heap.size n b vf vl vfa vta w' ∧ NtS B a len cap g w vg LG nv LN w'
set_option maxRecDepth 100000 in
set_option maxHeartbeats 4000000 in
theorem l23Case_any (B : Nat) (a : Option Addr) (len cap : Nat) (g : Nat → Nat) (w : World) (hc : Cur B a len cap g w) :
    Calls Try.prog 15 #[.pointer (some ⟨B, 0, none⟩)] w (CaseDrawn B a len cap g w) := by
  obtain ⟨i0, hi, hz0, hz1, hz2⟩ := info_parts Try.infoSent
  have hBw := hc.ltW
  have LB := Lib.hid (fun (m : Nat) w1 hc (h1 : 0 < m) (h2 : m ≤ 256) => l01Below_small B a len cap g m w1 hc h1 h2)
  have LD := Lib.hid (fun w1 hc => l05Draw_any B a len cap g w1 hc)
  have LK := Lib.hid (fun (n : Nat) w1 hc (h1 : 1 ≤ n) (h2 : n ≤ 6) => l07Book_any B a len cap g n 0 w1 hc h1 h2 (by omega))
  obtain ⟨w0, hw0⟩ : ∃ w0, w.alloc (.cells #[.slice none 0 0, .int .i64 0, .int .i64 0, .int .i64 0, .slice none 0 0, .bool false, .slice none 0 0, .slice none 0 0, .slice none 0 0] 29) = w0 := ⟨_, rfl⟩
  have al0 : Below w.heap.size w w0 := by rw [← hw0]; exact (Below.refl _ _).alloc (Nat.le_refl _) _
  have RF0 : BoxF w0 w.heap.size [.slice none 0 0, .int .i64 0, .int .i64 0, .int .i64 0, .slice none 0 0, .bool false, .slice none 0 0, .slice none 0 0, .slice none 0 0] := by rw [← hw0]; exact BoxF.made (Below.refl _ _) rfl
  have hs0 : w0.heap.size = w.heap.size + 1 := by rw [← hw0]; simp
  have HAL := Lib.hid al0
  have HRF := Lib.hid RF0
  have HS0 := Lib.hid hs0
  have HC := Lib.hid (hc.belowW al0 hBw)
  clear hc al0 RF0 hs0
  go_enter Try.func15, Try.ntmps15
  go_wp2_with fail
  
  clear hw0
  refine (LD.out _ HC.out).mono ?_
  rintro e w1 ⟨n, vg, LG, m, nv, LN, s, hn24, rfl, hL, hLl, hG, hLN, hS⟩
  obtain ⟨hn2, hn4⟩ := hn24
  have hpos : 0 < LG.length := List.length_pos_iff.2 (hL.2.2.2 (.inr (by omega)))
  obtain ⟨ga, gc, hgf⟩ := owns_form hS.2.1
  subst hgf
  obtain ⟨gb, rfl, hgc⟩ := nt_games hS hpos
  obtain ⟨na, nc, hnf⟩ := owns_form hS.2.2.1
  subst hnf
  have HL := Lib.hid hL
  have HLl := Lib.hid hLl
  have HG := Lib.hid hG
  have HS1 := Lib.hid hS
  have hL32 : LG.length ≤ 32 := by omega
  clear hL hLl hG hS HC
  go_upto_region 2 with fail
  go_cut [8] (fun s8 wx => ∃ (X : Nat) (b : BookI) (fa : Option Addr) (fc : Nat) (la : Option Addr) (lc : Nat) (qa : Option Addr) (qc : Nat) (ta : Option Addr) (tc : Nat) (vg0 : Value), s8 = .pointer (some ⟨X, 0, none⟩) ∧ Hid (BookI.good n 0 b) ∧ Hid (CaseA B a len cap g w0 (.slice (some ⟨gb, 0, none⟩) LG.length gc) LG (.slice na LN.length nc) LN n b (.slice fa n fc) (.slice la b.lad.length lc) (.slice qa b.fair.length qc) (.slice ta b.taken.length tc) vg0 X w.heap.size wx))
  case first =>
    have LK2 : Hid (∀ z : Int, z = n → Calls Try.prog 29 #[.pointer (some ⟨B, 0, none⟩), .int .i64 z, .int .i64 0] w1 (BookDrawn B a len cap g n 0 w1)) := fun z hz => by subst hz; exact LK.out n _ HS1.out.1 (by omega) (by omega)
    go_wp2_with fail
    all_goals
      refine (LK2.out _ (by omega)).mono ?_
      rintro e w3 ⟨b, vf, vl, vg0, vfa, vta, rfl, hgood, hown, c3, g3⟩
      have HS3 := Lib.hid (HS1.out.drawn c3 g3)
      obtain ⟨a1, c1, a2, c2, a3, c3', a4, c4, a5, c5, rfl, rfl, rfl, rfl, rfl⟩ := hown.form
      have hBK : BkRows w0.heap.size n b (.slice a1 n c1) (.slice a2 b.lad.length c2) (.slice a4 b.fair.length c4) (.slice a5 b.taken.length c5) w3 := by
        obtain ⟨⟨xf, k1, k0⟩, k2, _, k3, k4⟩ := hown
        have hsz := HS1.out.size
        exact ⟨⟨xf, owns_mono k1 hsz, k0⟩, owns_mono k2 hsz, owns_mono k3 hsz, owns_mono k4 hsz⟩
      have HRF3 := Lib.hid (HRF.out.grown HS3.out.2.2.2.1 (by simp; omega))
      have HBK := Lib.hid hBK
      have HGD := Lib.hid hgood
      have al3 : Below w3.heap.size w3 (w3.alloc (.cells #[.slice a1 n c1, .int .i64 b.win, .int .i64 1, .int .i64 0, .slice a2 b.lad.length c2, .bool b.ag, .slice a3 b.games.length c3', .slice a4 b.fair.length c4, .slice a5 b.taken.length c5] 29)) := (Below.refl _ _).alloc (Nat.le_refl _) _
      have low3 : ∀ {e : TypeId} {sz m : Nat} {v : Value} {xs : List Value}, w3.ownsRow w0.heap.size e sz v m xs → LowV w3.heap.size v := fun h k hk => (h.lt k hk).2
      have lf : LowV w3.heap.size (.slice a1 n c1) := by obtain ⟨⟨xf, k1, k0⟩, _⟩ := HBK.out; exact low3 k1
      have HEND : Hid (CaseA B a len cap g w0 (.slice (some ⟨gb, 0, none⟩) LG.length gc) LG (.slice na LN.length nc) LN n b (.slice a1 n c1) (.slice a2 b.lad.length c2) (.slice a4 b.fair.length c4) (.slice a5 b.taken.length c5) (.slice a3 b.games.length c3') w3.heap.size w.heap.size (w3.alloc (.cells #[.slice a1 n c1, .int .i64 b.win, .int .i64 1, .int .i64 0, .slice a2 b.lad.length c2, .bool b.ag, .slice a3 b.games.length c3', .slice a4 b.fair.length c4, .slice a5 b.taken.length c5] 29))) :=
        ⟨HS3.out.below al3, HBK.out.belowD al3 lf (low3 HBK.out.2.1) (low3 HBK.out.2.2.1) (low3 HBK.out.2.2.2), BoxF.made (Below.refl _ _) rfl, HRF3.out.below al3, HS3.out.size, low3 HS3.out.2.1, low3 HS3.out.2.2.1, lf, low3 HBK.out.2.1, low3 HBK.out.2.2.1, low3 HBK.out.2.2.2⟩
      clear hgood hown c3 g3 hBK al3 low3 lf
      go_wp2_with fail
      go_meet
      case rel => exact ⟨_, b, _, _, _, _, _, _, _, _, _, rfl, HGD, HEND⟩
  case rest =>
    obtain ⟨X, b, fa, fc, la, lc, qa, qc, ta, tc, vg0, rfl, HGD, HX⟩ := hcut
    clear HS1 LD LK
    have k6 := (HX.out.2.2.1.2 6 _ rfl).1
    have f6 := (HX.out.2.2.1.2 6 _ rfl).2
    have HC0 := Lib.hid (HX.out.list (by have := HS0.out; omega) (by omega))
    obtain ⟨D, hD⟩ : ∃ D, wc.heap.size = D := ⟨_, rfl⟩
    rw [hD] at HC0
    go_wp2_with fail
    clear k6 f6 hD HX
    refine (LB.out 4 _ HC0.out.cur (by omega) (by omega)).mono ?_
    rintro e w4 ⟨y0, hy0, rfl, c4, g4⟩
    have HC4 := Lib.hid (HC0.out.drawn c4 g4)
    clear c4 g4 HC0
    have hn6 : n ≤ 6 := by omega
    have HBS : Hid (bookS (caseB n b LG)) := by
      have h1 := HGD.out.2.1.2
      have h2 := HGD.out.2.2.2.1.1
      have h3 := HGD.out.2.2.2.2.1
      obtain ⟨K, hK, _, hK4⟩ := h1
      refine ⟨by show n ≤ 1048576; omega, ?_, by show LG.length ≤ 1048576; omega, by show b.fair.length ≤ 1048576; omega, by show b.taken.length ≤ 1048576; omega⟩
      show b.lad.length ≤ 1048576
      rw [hK, List.length_append]
      simp
      omega
    have HNM := Lib.hid (case_names (LG := LG) HGD.out.1.2 (by omega))
    go_wp2
    go_loopw [9, 10] (fun lv kv wr => ∃ (j k : Nat), j ≤ 3 ∧ k + j ≤ 3 ∧ kv = .int .i64 j ∧ Hid (CaseL B a len cap g w0 (.slice (some ⟨gb, 0, none⟩) LG.length gc) LG (.slice na LN.length nc) LN n b (.slice fa n fc) (.slice la b.lad.length lc) (.slice qa b.fair.length qc) (.slice ta b.taken.length tc) X w.heap.size D lv k wr)) (fun _ kv _ => (intOf kv).toNat)
    case atStart => exact ⟨y0, 0, by omega, by omega, rfl, HC4⟩
    case round =>
      clear HC4 hy0
      obtain ⟨j, k, hj3, hkj, rfl, HCr⟩ := hrel
      obtain ⟨xs, hlx⟩ := HCr.out.2
      obtain ⟨va, vc, hvf⟩ := owns_form hlx
      subst hvf
      clear hlx
      by_cases hj0 : 0 < j
      case neg =>
        obtain rfl : j = 0 := by omega
        have q0 := (HCr.out.1.2.2.2.1.2 0 _ rfl).1
        have r0 := (HCr.out.1.2.2.2.1.2 0 _ rfl).2
        have p0 := (HCr.out.1.2.2.1.2 0 _ rfl).1
        have q1 := (HCr.out.1.2.2.2.1.2 1 _ rfl).1
        have r1 := (HCr.out.1.2.2.2.1.2 1 _ rfl).2
        have p1 := (HCr.out.1.2.2.1.2 1 _ rfl).1
        have q2 := (HCr.out.1.2.2.2.1.2 2 _ rfl).1
        have r2 := (HCr.out.1.2.2.2.1.2 2 _ rfl).2
        have p2 := (HCr.out.1.2.2.1.2 2 _ rfl).1
        have q3 := (HCr.out.1.2.2.2.1.2 3 _ rfl).1
        have r3 := (HCr.out.1.2.2.2.1.2 3 _ rfl).2
        have p3 := (HCr.out.1.2.2.1.2 3 _ rfl).1
        have q4 := (HCr.out.1.2.2.2.1.2 4 _ rfl).1
        have r4 := (HCr.out.1.2.2.2.1.2 4 _ rfl).2
        have p4 := (HCr.out.1.2.2.1.2 4 _ rfl).1
        have q5 := (HCr.out.1.2.2.2.1.2 5 _ rfl).1
        have r5 := (HCr.out.1.2.2.2.1.2 5 _ rfl).2
        have p5 := (HCr.out.1.2.2.1.2 5 _ rfl).1
        have q6 := (HCr.out.1.2.2.2.1.2 6 _ rfl).1
        have r6 := (HCr.out.1.2.2.2.1.2 6 _ rfl).2
        have p6 := (HCr.out.1.2.2.1.2 6 _ rfl).1
        have q7 := (HCr.out.1.2.2.2.1.2 7 _ rfl).1
        have r7 := (HCr.out.1.2.2.2.1.2 7 _ rfl).2
        have p7 := (HCr.out.1.2.2.1.2 7 _ rfl).1
        have q8 := (HCr.out.1.2.2.2.1.2 8 _ rfl).1
        have r8 := (HCr.out.1.2.2.2.1.2 8 _ rfl).2
        have p8 := (HCr.out.1.2.2.1.2 8 _ rfl).1
        have hR2 : w.heap.size < wr.heap.size := HCr.out.1.2.2.2.1.1
        have hX2 : X < wr.heap.size := HCr.out.1.2.2.1.1
        have hXR : X ≠ w.heap.size := by have := HCr.out.1.2.2.2.2.1.1; have := HS0.out; omega
        have hXR' : w.heap.size ≠ X := Ne.symm hXR
        clear LB
        go_wp2
        refine bodyPost_ret (v := .tuple #[.agg #[.slice fa n fc, .int .i64 b.win, .int .i64 1, .int .i64 0, .slice la b.lad.length lc, .bool b.ag, .slice (some ⟨gb, 0, none⟩) LG.length gc, .slice qa b.fair.length qc, .slice ta b.taken.length tc], .slice na LN.length nc, .slice va k vc]) (by simp [results, Try.results15, go_sem, q0, q1, q2, q3, q4, q5, q6, q7, q8]) rfl ?_
        refine ⟨n, b, LG, m, LN, s, _, _, _, _, _, _, _, ⟨hn2, hn4⟩, rfl, HGD.out, HL.out, HLl.out, HG.out, hLN, ?_, ?_⟩
        · refine BkRows.mono (BkRows.touch (lo := w.heap.size) (hi := w.heap.size + 1) HCr.out.1.2.1 ?_ (by have := HS0.out; omega)) (by have := HS0.out; omega)
          iterate 9 (refine Touch.setCell ?_ _ _ (by simp) (by simp))
          exact Touch.refl _ _ _
        · refine NtS.out (w0 := w0) (lo := w.heap.size) HCr.out.1.1 HAL.out ?_ HS0.out hBw
          iterate 9 (refine Touch.setCell ?_ _ _ (by simp) (by simp))
          exact Touch.refl _ _ _
      obtain ⟨j', rfl⟩ : ∃ j', j = j' + 1 := ⟨j - 1, by omega⟩
      have LA : Hid (∀ (z : Nat) wa, CaseS B a len cap g w0 (.slice (some ⟨gb, 0, none⟩) LG.length gc) LG (.slice na LN.length nc) LN n b (.slice fa n fc) (.slice la b.lad.length lc) (.slice qa b.fair.length qc) (.slice ta b.taken.length tc) X w.heap.size D wa → Calls Try.prog 31 #[.agg #[.slice fa n fc, .int .i64 b.win, .int .i64 1, .int .i64 0, .slice la b.lad.length lc, .bool b.ag, .slice (some ⟨gb, 0, none⟩) LG.length gc, .slice qa b.fair.length qc, .slice ta b.taken.length tc], .slice na LN.length nc, .int .i64 z] wa fun e w' => ∃ (z' : Int) (oa : Option Addr) (on oc : Nat) (ok : Bool), e = .returned (.tuple #[.agg #[.int .i64 z', .slice oa on oc], .bool ok]) ∧ Below wa.heap.size wa w') := fun z wa h => by
        obtain ⟨R1, hR1⟩ := boolEx (annP (caseB n b LG) (getN' LN) LN.length z)
        obtain ⟨R2, hR2⟩ := boolEx (bookP (atB (caseB n b LG) (getN' LN) LN.length z))
        refine (announceAt_spec _ _ _ _ _ (caseB n b LG) (.slice na LN.length nc) LN.length (getN' LN) z R1 R2 wa hR1 hR2 (h.row HBS.out) HNM.out (NoteRow.of_owns h.1.2.2.1 (by omega) (notes_cells LN)) HBS.out (by omega)).mono ?_
        rintro e w' (⟨_, rfl, hb⟩ | ⟨_, ov, rfl, ho, hb⟩)
        · exact ⟨0, _, _, _, false, rfl, hb⟩
        · obtain ⟨oa, oc, rfl⟩ := owns_form ho
          exact ⟨_, _, _, _, true, rfl, hb⟩
      go_upto_region 8 with fail
      go_cut [11, 12] (fun s11 s12 wx => ∃ (Y : Nat) (ok : Bool) (z' : Int) (oa : Option Addr) (on oc : Nat), s11 = .pointer (some ⟨Y, 0, none⟩) ∧ s12 = .bool ok ∧ Hid (CaseY B a len cap g w0 (.slice (some ⟨gb, 0, none⟩) LG.length gc) LG (.slice na LN.length nc) LN n b (.slice fa n fc) (.slice la b.lad.length lc) (.slice qa b.fair.length qc) (.slice ta b.taken.length tc) X w.heap.size D (.slice va k vc) k Y [.int .i64 z', .slice oa on oc] wx))
      case first =>
        obtain ⟨S, HSd⟩ : ∃ S : World → Prop, S = fun w' => CaseL B a len cap g w0 (.slice (some ⟨gb, 0, none⟩) LG.length gc) LG (.slice na LN.length nc) LN n b (.slice fa n fc) (.slice la b.lad.length lc) (.slice qa b.fair.length qc) (.slice ta b.taken.length tc) X w.heap.size D (.slice va k vc) k w' := ⟨_, rfl⟩
        have OS : Hid (∀ wa, S wa → CaseL B a len cap g w0 (.slice (some ⟨gb, 0, none⟩) LG.length gc) LG (.slice na LN.length nc) LN n b (.slice fa n fc) (.slice la b.lad.length lc) (.slice qa b.fair.length qc) (.slice ta b.taken.length tc) X w.heap.size D (.slice va k vc) k wa) := by subst HSd; exact fun _ h => h
        have SO : Hid (∀ wa, CaseL B a len cap g w0 (.slice (some ⟨gb, 0, none⟩) LG.length gc) LG (.slice na LN.length nc) LN n b (.slice fa n fc) (.slice la b.lad.length lc) (.slice qa b.fair.length qc) (.slice ta b.taken.length tc) X w.heap.size D (.slice va k vc) k wa → S wa) := by subst HSd; exact fun _ h => h
        clear HSd
        have KS0 := Lib.hid (SO.out _ (HCr.out.below (Below.refl _ _).drew))
        clear HCr
        go_wp2_with fail
        refine wp_region_held_drew (S := S) (by kernel_rfl) ?_ (fun hH0 => ?_)
        · exact KS0.out
        clear KS0
        generalize wr.drew = wd at *
        refine wpAnyH_take (i := 0) (v := ?_) rfl (by kernel_rfl) (by kernel_rfl) (by kernel_rfl) (fun _ _ _ h => h) (Or.inl ⟨by rfl, ?_⟩) hH0 ?_
        rotate_left
        · (intro wa hSw; have d0 := ((OS.out _ hSw).1.2.2.1.2 0 _ rfl).1; have d1 := ((OS.out _ hSw).1.2.2.1.2 1 _ rfl).1; have d2 := ((OS.out _ hSw).1.2.2.1.2 2 _ rfl).1; have d3 := ((OS.out _ hSw).1.2.2.1.2 3 _ rfl).1; have d4 := ((OS.out _ hSw).1.2.2.1.2 4 _ rfl).1; have d5 := ((OS.out _ hSw).1.2.2.1.2 5 _ rfl).1; have d6 := ((OS.out _ hSw).1.2.2.1.2 6 _ rfl).1; have d7 := ((OS.out _ hSw).1.2.2.1.2 7 _ rfl).1; have d8 := ((OS.out _ hSw).1.2.2.1.2 8 _ rfl).1; go_simp; try with_reducible rfl)
        simp only [Act.put, List.getElem_toArray, List.getElem_cons_zero, List.setIfInBounds_toArray, List.set_cons_zero, List.set_cons_succ]
        refine wpAnyH_take (i := 1) (v := ?_) rfl (by kernel_rfl) (by kernel_rfl) (by kernel_rfl) (fun _ _ _ h => h) (Or.inl ⟨by rfl, ?_⟩) hH0 ?_
        rotate_left
        · (intro wa hSw; skip; go_simp; try with_reducible rfl)
        simp only [Act.put, List.getElem_toArray, List.getElem_cons_zero, List.getElem_cons_succ, List.setIfInBounds_toArray, List.set_cons_zero, List.set_cons_succ]
        refine wpAnyH_take (i := 2) (v := ?_) rfl (by kernel_rfl) (by kernel_rfl) (by kernel_rfl) (fun _ _ _ h => h) (Or.inl ⟨by rfl, ?_⟩) hH0 ?_
        rotate_left
        · (intro wa hSw; skip; go_simp; try with_reducible rfl)
        simp only [Act.put, List.getElem_toArray, List.getElem_cons_zero, List.getElem_cons_succ, List.setIfInBounds_toArray, List.set_cons_zero, List.set_cons_succ]
        refine wpAnyH_ready (rs := [3, 8]) (by kernel_rfl) (by simp) ?_
        refine AllReadyH.cons (o := _) rfl (fun K3 hK3 => ?_) (AllReadyH.cons (o := _) rfl (fun K8 hK8 => ?_) AllReadyH.nil)
        · go_simp
          refine (LB.out 12 _ (OS.out _ hH0).cur (by omega) (by omega)).mono ?_
          rintro e w21 ⟨z, hz12, rfl, cy, gy⟩
          have hS1 := SO.out _ ((OS.out _ hH0).drawn cy gy)
          clear cy gy hz12
          (try go_wp2_with fail)
          refine hK3.out _ _ ?_ (fun hH => ?_)
          · exact hS1
          clear hK3 K3 hH
          refine wpAnyH_ready (rs := [4, 8]) (by kernel_rfl) (by simp) ?_
          refine AllReadyH.cons (o := _) rfl (fun K4 hK4 => ?_) (AllReadyH.cons (o := _) rfl (fun K8 hK8 => ?_) AllReadyH.nil)
          · go_simp
            refine (LA.out z _ (OS.out _ hS1).1).mono ?_
            rintro e w22 ⟨z', oa, on, oc, ok, rfl, by4⟩
            have hS2 := SO.out _ ((OS.out _ hS1).below by4)
            clear by4
            (try go_wp2_with fail)
            refine hK4.out _ _ ?_ (fun hH => ?_)
            · exact hS2
            clear hK4 K4 hH
            refine wpAnyH_take (i := 5) (v := ?_) rfl (by kernel_rfl) (by kernel_rfl) (by kernel_rfl) (fun _ _ _ h => h) (Or.inl ⟨by rfl, ?_⟩) hS2 ?_
            rotate_left
            · (intro wa hSw; skip; go_simp; try with_reducible rfl)
            simp only [Act.put, List.getElem_toArray, List.getElem_cons_zero, List.getElem_cons_succ, List.setIfInBounds_toArray, List.set_cons_zero, List.set_cons_succ]
            refine wpAnyH_take (i := 6) (v := ?_) rfl (by kernel_rfl) (by kernel_rfl) (by kernel_rfl) (fun _ _ _ h => h) (Or.inl ⟨by rfl, ?_⟩) hS2 ?_
            rotate_left
            · (intro wa hSw; skip; go_simp; try with_reducible rfl)
            simp only [Act.put, List.getElem_toArray, List.getElem_cons_zero, List.getElem_cons_succ, List.setIfInBounds_toArray, List.set_cons_zero, List.set_cons_succ]
            refine wpAnyH_take (i := 7) (v := ?_) rfl (by kernel_rfl) (by kernel_rfl) (by kernel_rfl) (fun _ _ _ h => h) (Or.inl ⟨by rfl, ?_⟩) hS2 ?_
            rotate_left
            · (intro wa hSw; skip; go_simp; try with_reducible rfl)
            simp only [Act.put, List.getElem_toArray, List.getElem_cons_zero, List.getElem_cons_succ, List.setIfInBounds_toArray, List.set_cons_zero, List.set_cons_succ]
            refine wpAnyH_ready (rs := [8]) (by kernel_rfl) (by simp) ?_
            refine AllReadyH.cons (o := _) rfl (fun K8 hK8 => ?_) AllReadyH.nil
            have hz := CaseL.start (OS.out _ hS2) #[.int .i64 0, .slice none 0 0] 70
            have hS3 := SO.out _ hz.1
            go_simp
            refine hK8.out _ _ ?_ (fun hH => ?_)
            · exact hS3
            clear hK8 K8 hH
            generalize w22.alloc (.cells #[.int .i64 0, .slice none 0 0] 70) = wq3 at *
            generalize w22.heap.size = Y at *
            have hx := hz
            clear hz
            obtain ⟨c0, f0⟩ := hx.2.1.2 0 _ rfl
            obtain ⟨c1, f1⟩ := hx.2.1.2 1 _ rfl
            have HR := Lib.hid ((hx.set 0 (.int .i64 z') (by simp)).set 1 (.slice oa on oc) (by simp))
            have hSst := SO.out _ HR.out.1
            refine wpAnyH_ready (rs := [9]) (by kernel_rfl) (by simp) ?_
            refine AllReadyH.cons (o := _) rfl (fun K hK => ?_) AllReadyH.nil
            go_simp
            refine hK.out _ _ ?_ (fun hHs => ?_)
            · exact hSst
            clear hK K c0 c1 f0 f1 hx hSst
            refine wpAnyH_take (i := 10) (v := ?_) rfl (by kernel_rfl) (by kernel_rfl) (by kernel_rfl) (fun _ _ _ h => h) (Or.inl ⟨by rfl, ?_⟩) hHs ?_
            rotate_left
            · (intro wa hSw; skip; go_simp; try with_reducible rfl)
            simp only [Act.put, List.getElem_toArray, List.getElem_cons_zero, List.getElem_cons_succ, List.setIfInBounds_toArray, List.set_cons_zero, List.set_cons_succ]
            refine wpAnyH_done (by kernel_rfl) ?_ _
            clear hHs OS SO hH0 hS1 hS2 hS3
            go_wp2_with fail
            go_meet
            case rel => exact ⟨Y, ok, z', oa, on, oc, rfl, rfl, HR⟩
          · have hz := CaseL.start (OS.out _ hS1) #[.int .i64 0, .slice none 0 0] 70
            have hS4 := SO.out _ hz.1
            go_simp
            refine hK8.out _ _ ?_ (fun hH => ?_)
            · exact hS4
            clear hK8 K8 hH
            generalize w21.alloc (.cells #[.int .i64 0, .slice none 0 0] 70) = wq4 at *
            generalize w21.heap.size = Y at *
            have hx := hz
            clear hz
            refine wpAnyH_ready (rs := [4]) (by kernel_rfl) (by simp) ?_
            refine AllReadyH.cons (o := _) rfl (fun K4 hK4 => ?_) AllReadyH.nil
            go_simp
            refine (LA.out z _ (OS.out _ hS4).1).mono ?_
            rintro e w25 ⟨z', oa, on, oc, ok, rfl, by4⟩
            have hS5 := SO.out _ ((OS.out _ hS4).below by4)
            replace hx := hx.below by4
            clear by4
            (try go_wp2_with fail)
            refine hK4.out _ _ ?_ (fun hH => ?_)
            · exact hS5
            clear hK4 K4 hH
            refine wpAnyH_take (i := 5) (v := ?_) rfl (by kernel_rfl) (by kernel_rfl) (by kernel_rfl) (fun _ _ _ h => h) (Or.inl ⟨by rfl, ?_⟩) hS5 ?_
            rotate_left
            · (intro wa hSw; skip; go_simp; try with_reducible rfl)
            simp only [Act.put, List.getElem_toArray, List.getElem_cons_zero, List.getElem_cons_succ, List.setIfInBounds_toArray, List.set_cons_zero, List.set_cons_succ]
            refine wpAnyH_take (i := 6) (v := ?_) rfl (by kernel_rfl) (by kernel_rfl) (by kernel_rfl) (fun _ _ _ h => h) (Or.inl ⟨by rfl, ?_⟩) hS5 ?_
            rotate_left
            · (intro wa hSw; skip; go_simp; try with_reducible rfl)
            simp only [Act.put, List.getElem_toArray, List.getElem_cons_zero, List.getElem_cons_succ, List.setIfInBounds_toArray, List.set_cons_zero, List.set_cons_succ]
            refine wpAnyH_take (i := 7) (v := ?_) rfl (by kernel_rfl) (by kernel_rfl) (by kernel_rfl) (fun _ _ _ h => h) (Or.inl ⟨by rfl, ?_⟩) hS5 ?_
            rotate_left
            · (intro wa hSw; skip; go_simp; try with_reducible rfl)
            simp only [Act.put, List.getElem_toArray, List.getElem_cons_zero, List.getElem_cons_succ, List.setIfInBounds_toArray, List.set_cons_zero, List.set_cons_succ]
            obtain ⟨c0, f0⟩ := hx.2.1.2 0 _ rfl
            obtain ⟨c1, f1⟩ := hx.2.1.2 1 _ rfl
            have HR := Lib.hid ((hx.set 0 (.int .i64 z') (by simp)).set 1 (.slice oa on oc) (by simp))
            have hSst := SO.out _ HR.out.1
            refine wpAnyH_ready (rs := [9]) (by kernel_rfl) (by simp) ?_
            refine AllReadyH.cons (o := _) rfl (fun K hK => ?_) AllReadyH.nil
            go_simp
            refine hK.out _ _ ?_ (fun hHs => ?_)
            · exact hSst
            clear hK K c0 c1 f0 f1 hx hSst
            refine wpAnyH_take (i := 10) (v := ?_) rfl (by kernel_rfl) (by kernel_rfl) (by kernel_rfl) (fun _ _ _ h => h) (Or.inl ⟨by rfl, ?_⟩) hHs ?_
            rotate_left
            · (intro wa hSw; skip; go_simp; try with_reducible rfl)
            simp only [Act.put, List.getElem_toArray, List.getElem_cons_zero, List.getElem_cons_succ, List.setIfInBounds_toArray, List.set_cons_zero, List.set_cons_succ]
            refine wpAnyH_done (by kernel_rfl) ?_ _
            clear hHs OS SO hH0 hS1 hS4 hS5
            go_wp2_with fail
            go_meet
            case rel => exact ⟨Y, ok, z', oa, on, oc, rfl, rfl, HR⟩
        · have hz := CaseL.start (OS.out _ hH0) #[.int .i64 0, .slice none 0 0] 70
          have hS6 := SO.out _ hz.1
          go_simp
          refine hK8.out _ _ ?_ (fun hH => ?_)
          · exact hS6
          clear hK8 K8 hH
          generalize wd.alloc (.cells #[.int .i64 0, .slice none 0 0] 70) = wq6 at *
          generalize wd.heap.size = Y at *
          have hx := hz
          clear hz
          refine wpAnyH_ready (rs := [3]) (by kernel_rfl) (by simp) ?_
          refine AllReadyH.cons (o := _) rfl (fun K3 hK3 => ?_) AllReadyH.nil
          go_simp
          refine (LB.out 12 _ (OS.out _ hS6).cur (by omega) (by omega)).mono ?_
          rintro e w27 ⟨z, hz12, rfl, cy, gy⟩
          have hS7 := SO.out _ ((OS.out _ hS6).drawn cy gy)
          replace hx := hx.drawn cy gy
          clear cy gy hz12
          (try go_wp2_with fail)
          refine hK3.out _ _ ?_ (fun hH => ?_)
          · exact hS7
          clear hK3 K3 hH
          refine wpAnyH_ready (rs := [4]) (by kernel_rfl) (by simp) ?_
          refine AllReadyH.cons (o := _) rfl (fun K4 hK4 => ?_) AllReadyH.nil
          go_simp
          refine (LA.out z _ (OS.out _ hS7).1).mono ?_
          rintro e w28 ⟨z', oa, on, oc, ok, rfl, by4⟩
          have hS8 := SO.out _ ((OS.out _ hS7).below by4)
          replace hx := hx.below by4
          clear by4
          (try go_wp2_with fail)
          refine hK4.out _ _ ?_ (fun hH => ?_)
          · exact hS8
          clear hK4 K4 hH
          refine wpAnyH_take (i := 5) (v := ?_) rfl (by kernel_rfl) (by kernel_rfl) (by kernel_rfl) (fun _ _ _ h => h) (Or.inl ⟨by rfl, ?_⟩) hS8 ?_
          rotate_left
          · (intro wa hSw; skip; go_simp; try with_reducible rfl)
          simp only [Act.put, List.getElem_toArray, List.getElem_cons_zero, List.getElem_cons_succ, List.setIfInBounds_toArray, List.set_cons_zero, List.set_cons_succ]
          refine wpAnyH_take (i := 6) (v := ?_) rfl (by kernel_rfl) (by kernel_rfl) (by kernel_rfl) (fun _ _ _ h => h) (Or.inl ⟨by rfl, ?_⟩) hS8 ?_
          rotate_left
          · (intro wa hSw; skip; go_simp; try with_reducible rfl)
          simp only [Act.put, List.getElem_toArray, List.getElem_cons_zero, List.getElem_cons_succ, List.setIfInBounds_toArray, List.set_cons_zero, List.set_cons_succ]
          refine wpAnyH_take (i := 7) (v := ?_) rfl (by kernel_rfl) (by kernel_rfl) (by kernel_rfl) (fun _ _ _ h => h) (Or.inl ⟨by rfl, ?_⟩) hS8 ?_
          rotate_left
          · (intro wa hSw; skip; go_simp; try with_reducible rfl)
          simp only [Act.put, List.getElem_toArray, List.getElem_cons_zero, List.getElem_cons_succ, List.setIfInBounds_toArray, List.set_cons_zero, List.set_cons_succ]
          obtain ⟨c0, f0⟩ := hx.2.1.2 0 _ rfl
          obtain ⟨c1, f1⟩ := hx.2.1.2 1 _ rfl
          have HR := Lib.hid ((hx.set 0 (.int .i64 z') (by simp)).set 1 (.slice oa on oc) (by simp))
          have hSst := SO.out _ HR.out.1
          refine wpAnyH_ready (rs := [9]) (by kernel_rfl) (by simp) ?_
          refine AllReadyH.cons (o := _) rfl (fun K hK => ?_) AllReadyH.nil
          go_simp
          refine hK.out _ _ ?_ (fun hHs => ?_)
          · exact hSst
          clear hK K c0 c1 f0 f1 hx hSst
          refine wpAnyH_take (i := 10) (v := ?_) rfl (by kernel_rfl) (by kernel_rfl) (by kernel_rfl) (fun _ _ _ h => h) (Or.inl ⟨by rfl, ?_⟩) hHs ?_
          rotate_left
          · (intro wa hSw; skip; go_simp; try with_reducible rfl)
          simp only [Act.put, List.getElem_toArray, List.getElem_cons_zero, List.getElem_cons_succ, List.setIfInBounds_toArray, List.set_cons_zero, List.set_cons_succ]
          refine wpAnyH_done (by kernel_rfl) ?_ _
          clear hHs OS SO hH0 hS6 hS7 hS8
          go_wp2_with fail
          go_meet
          case rel => exact ⟨Y, ok, z', oa, on, oc, rfl, rfl, HR⟩
      case rest =>
        obtain ⟨Y, ok, z', oa, on, oc, rfl, rfl, HY⟩ := hcut
        clear HCr LA
        cases ok with
        | false =>
          go_wp2
          go_roundw
          case rel => exact ⟨j', k, by omega, by omega, by go_num, Lib.hid HY.out.1⟩
          case measure => simp [intOf]
        | true =>
          have q0 := (HY.out.2.1.2 0 _ rfl).1
          have q1 := (HY.out.2.1.2 1 _ rfl).1
          have hY2 : Y < wc.heap.size := HY.out.2.1.1
          obtain ⟨ys, hly⟩ := HY.out.1.2
          have HLY := Lib.hid hly
          have hszD : D ≤ wc.heap.size := HY.out.1.1.2.2.2.2.1.2.2.2.2
          clear hly
          go_wp2_with (at_builtin; refine wpList_pushL rfl (.tmp 41) (.tmp 43) 31 rfl D 70 Try.underlying31 hi hz0 hz1 hz2 rfl (by decide) [.int .i64 z', .slice oa on oc] rfl (by intro u hu; simp at hu; rcases hu with rfl | rfl <;> rfl) rfl (by first | rfl | (show Value.slice (some ⟨_, 0, none⟩) 1 1 = _; simp)) HLY.out (by unfold maxLen; omega) (by omega) hszD ?_; intro gg cc w11 o11 g11 at11 lt11; have HL11 := Lib.hid (HY.out.1.push o11 g11); clear o11 g11 at11 lt11)
          go_roundw
          case rel => exact ⟨j', k + 1, by omega, by omega, by go_num, HL11⟩
          case measure => simp [intOf]
end Go.Proofs.Ytojkonhhaamodaa
set_option linter.unusedVariables false
namespace Go.Proofs.Ytojkonhhaamodaa
open Go.RowKit

/-- a book with valid notes, in memory of the call's own -/
def NotesMade (w : World) (e : Ending) (w' : World) : Prop :=
  ∃ (n : Nat) (b : BookI) (LG : List GameD) (m : Nat) (LN : List NoteD) (s : Nat) (vf vl vg vfa vta nv lv : Value), (2 ≤ n ∧ n ≤ 4) ∧ e = .returned (.tuple #[.agg #[vf, .int .i64 b.win, .int .i64 1, .int .i64 0, vl, .bool b.ag, vg, vfa, vta], nv, lv]) ∧
    BookI.good n 0 b ∧ SeaL 0 n LG m ∧ LG.length ≤ 8 * n ∧ NGood n LG s LN ∧ LN.length ≤ 12 ∧ BkRows w.heap.size n b vf vl vfa vta w' ∧ w'.ownsRow w.heap.size 37 5 vg LG.length (gcells LG) ∧ w'.ownsRow w.heap.size 39 7 nv LN.length (LN.flatMap NoteD.cells) ∧ Below w.heap.size w w'
set_option maxRecDepth 100000 in
set_option maxHeartbeats 2000000 in
theorem makeNotes_any (a : Option Addr) (len cap : Nat) (g : Nat → Nat) (w : World) (hr : ByteRow w a len g) (hg : ∀ i, g i ≤ 255) (hl : len ≤ 1048576) :
    Calls Try.prog 5 #[.slice a len cap] w (NotesMade w) := by
  have C := Lib.hid (fun w1 hr => l01New_any a len cap g w1 hr hg hl)
  have L2 := Lib.hid (fun B w1 hc => l23Case_any B a len cap g w1 hc)
  have HR := Lib.hid (hr.below ((Below.refl _ w).alloc (Nat.le_refl _) (.cells #[.slice none 0 0, .int .i64 0, .int .i64 0, .int .i64 0, .slice none 0 0, .bool false, .slice none 0 0, .slice none 0 0, .slice none 0 0] 29)) (Nat.le_refl _))
  have ZF0 := Lib.hid (BoxF.made (u := w) (Below.refl _ _) (B := w.heap.size) rfl : BoxF (w.alloc (.cells #[.slice none 0 0, .int .i64 0, .int .i64 0, .int .i64 0, .slice none 0 0, .bool false, .slice none 0 0, .slice none 0 0, .slice none 0 0] 29)) w.heap.size [.slice none 0 0, .int .i64 0, .int .i64 0, .int .i64 0, .slice none 0 0, .bool false, .slice none 0 0, .slice none 0 0, .slice none 0 0])
  have hb0 : Below w.heap.size w (w.alloc (.cells #[.slice none 0 0, .int .i64 0, .int .i64 0, .int .i64 0, .slice none 0 0, .bool false, .slice none 0 0, .slice none 0 0, .slice none 0 0] 29)) := (Below.refl _ _).alloc (Nat.le_refl _) _
  have hs0 : (w.alloc (.cells #[.slice none 0 0, .int .i64 0, .int .i64 0, .int .i64 0, .slice none 0 0, .bool false, .slice none 0 0, .slice none 0 0, .slice none 0 0] 29)).heap.size = w.heap.size + 1 := by simp
  have HB0 := Lib.hid hb0
  have HS0 := Lib.hid hs0
  clear hr hg hl hb0 hs0
  go_enter Try.func5, Try.ntmps5
  go_wp2_with fail
  refine (C.out _ HR.out).mono ?_
  rintro e w1 ⟨B, rfl, hB, hc, hb⟩
  have HC := Lib.hid hc
  have HB1 := Lib.hid hb
  have hBs : w.heap.size + 1 ≤ B := by have := HS0.out; omega
  have hz1 : w.heap.size + 1 ≤ w1.heap.size := by have := hb.size; have := HS0.out; omega
  clear C hc hb HR hB
  go_wp2_with fail
  refine (L2.out B _ HC.out).mono ?_
  rintro e w3 ⟨n, b, LG, m, LN, s, vf, vl, vg, vfa, vta, nv, lv, hn, rfl, hgood, hL, hLl, hG, hLN, hBK, hS⟩
  have h13 : Below (w.heap.size + 1) w1 w3 := (Below.refl _ _).grown hS.2.2.2.1 hz1 (fun k hk => by cases hk; exact hBs)
  have ZF1 := ZF0.out.below HB1.out
  have ZF3 := Lib.hid (ZF1.belowD h13 (Nat.lt_succ_self _))
  have HB3 := Lib.hid (HB0.out.trans ((HB1.out.mono (show w.heap.size ≤ _ by have := HS0.out; omega)).trans (h13.mono (by omega))))
  obtain ⟨a1, c1, e1⟩ : ∃ a c, vf = .slice a n c := by obtain ⟨⟨xf, k1, _⟩, _⟩ := hBK; exact owns_form k1
  obtain ⟨a2, c2, e2⟩ := owns_form hBK.2.1
  obtain ⟨a3, c3, e3⟩ := owns_form hS.2.1
  obtain ⟨a4, c4, e4⟩ := owns_form hBK.2.2.1
  obtain ⟨a5, c5, e5⟩ := owns_form hBK.2.2.2
  subst e1 e2 e3 e4 e5
  have HN := Lib.hid hn
  have HGd := Lib.hid hgood
  have HL := Lib.hid hL
  have HLl := Lib.hid hLl
  have HG := Lib.hid hG
  have HLN := Lib.hid hLN
  have HBK := Lib.hid (hBK.mono (base' := w.heap.size + 1) hz1)
  have HVG := Lib.hid (owns_mono (base' := w.heap.size + 1) hS.2.1 hz1)
  have HNV := Lib.hid (owns_mono (base' := w.heap.size + 1) hS.2.2.1 hz1)
  clear hn hgood hL hLl hG hLN hBK hS h13 ZF1 L2 HC HB1
  have q0 := (ZF3.out.2 0 _ rfl).1
  have r0 := (ZF3.out.2 0 _ rfl).2
  have q1 := (ZF3.out.2 1 _ rfl).1
  have r1 := (ZF3.out.2 1 _ rfl).2
  have q2 := (ZF3.out.2 2 _ rfl).1
  have r2 := (ZF3.out.2 2 _ rfl).2
  have q3 := (ZF3.out.2 3 _ rfl).1
  have r3 := (ZF3.out.2 3 _ rfl).2
  have q4 := (ZF3.out.2 4 _ rfl).1
  have r4 := (ZF3.out.2 4 _ rfl).2
  have q5 := (ZF3.out.2 5 _ rfl).1
  have r5 := (ZF3.out.2 5 _ rfl).2
  have q6 := (ZF3.out.2 6 _ rfl).1
  have r6 := (ZF3.out.2 6 _ rfl).2
  have q7 := (ZF3.out.2 7 _ rfl).1
  have r7 := (ZF3.out.2 7 _ rfl).2
  have q8 := (ZF3.out.2 8 _ rfl).1
  have r8 := (ZF3.out.2 8 _ rfl).2
  have hlt : w.heap.size < w3.heap.size := ZF3.out.1
  go_wp2
  refine bodyPost_ret (v := .tuple #[.agg #[.slice a1 n c1, .int .i64 b.win, .int .i64 1, .int .i64 0, .slice a2 b.lad.length c2, .bool b.ag, .slice a3 LG.length c3, .slice a4 b.fair.length c4, .slice a5 b.taken.length c5], nv, lv]) (by simp [results, Try.results5, go_sem, q0, q1, q2, q3, q4, q5, q6, q7, q8]) rfl ?_
  refine ⟨n, b, LG, m, LN, s, _, _, _, _, _, _, _, HN.out, rfl, HGd.out, HL.out, HLl.out, HG.out, HLN.out, (HBK.out.touch (lo := w.heap.size) (hi := w.heap.size + 1) ?_ (Nat.le_refl _)).mono (by omega), owns_mono (owns_touch (lo := w.heap.size) (hi := w.heap.size + 1) HVG.out ?_ (InW.of_owns HVG.out) (.inr (Nat.le_refl _))) (by omega), owns_mono (owns_touch (lo := w.heap.size) (hi := w.heap.size + 1) HNV.out ?_ (InW.of_owns HNV.out) (.inr (Nat.le_refl _))) (by omega), ?_⟩
  · iterate 9 (refine Touch.setCell ?_ _ _ (by simp) (by simp))
    exact Touch.refl _ _ _
  · iterate 9 (refine Touch.setCell ?_ _ _ (by simp) (by simp))
    exact Touch.refl _ _ _
  · iterate 9 (refine Touch.setCell ?_ _ _ (by simp) (by simp))
    exact Touch.refl _ _ _
  · iterate 9 (refine Below.setCell ?_ (by simp) _)
    exact HB3.out
end Go.Proofs.Ytojkonhhaamodaa
set_option linter.unusedVariables false
namespace Go.Proofs.Ytojkonhhaamodaa
open Go.RowKit Go.Maps

theorem sortsL (m : Nat) : AnyZI.SortsIn Try.prog Try.sortedL_ren Fence.wide m :=
  ⟨fun blk off cap ss W hH hblk hsz => callsIn_wide.2 (AnyM.slices_Sort_int Try.sortL blk off cap ss W hH hblk hsz),
   fun p cap W => callsIn_wide.2 (AnyM.slices_Sort_int_none Try.sortL p cap W)⟩
theorem keys_impl (mb : Option Nat) (W : World) : Calls Try.prog 25 #[.map mb] W fun e w' => e = .returned (.func (.func 37) #[] #[.pointer (some ⟨W.heap.size, 0, none⟩)]) ∧ w' = W.alloc (.cells #[.map mb] 52) :=
  callsIn_wide.1 (AnyZI.keys_in Try.keysL Fence.wide 5 trivial rfl mb W)
theorem has_mem {es : List (Lit × DataW Unit)} {x : Int} : has (.map es) (.int .i64 x) = true ↔ ∃ p ∈ es, p.1 = .int .i64 x := by
  rw [Maps.has_eq, List.any_eq_true]
  constructor
  · rintro ⟨p, hp, hs⟩; exact ⟨p, hp, WideAt.sameKey_eq hs⟩
  · rintro ⟨p, hp, hs⟩; exact ⟨p, hp, by rw [hs]; exact WideAt.sameKey_self trivial⟩
/-- the keys of such a map: none twice, and just those with a record -/
theorem PtrMap.keys {w : World} {b o m n : Nat} {F : Int → Int} {D : DataW Unit} (ho : w.ownsMap Try.prog 3 (ptrElem b o) m n D) (hD : MapD F D) : (Go.intKeys D).Nodup ∧ ∀ s, s ∈ Go.intKeys D ↔ 0 ≤ F s := by
  obtain ⟨es, rfl, hpw, _⟩ := ho.entries kInt
  have hk : ∀ p ∈ es, ∃ x, p.1 = .int .i64 x := fun p hp => by
    have : has (.map es) p.1 = true := by
      rw [Maps.has_eq, List.any_eq_true]
      refine ⟨p, hp, WideAt.sameKey_self ?_⟩
      obtain ⟨es', he, _, hkl⟩ := ho.entries kInt
      simp only [DataW.map.injEq] at he
      subst he
      exact hkl p hp
    obtain ⟨s, hs, _⟩ := (hD.1 p.1).1 this
    exact ⟨s, hs⟩
  constructor
  · show (es.map fun p => Go.intOf p.1).Nodup
    rw [List.Nodup, List.pairwise_map]
    refine hpw.imp_of_mem fun ha hb hne e => hne ?_
    obtain ⟨x, hx⟩ := hk _ ha
    obtain ⟨y, hy⟩ := hk _ hb
    rw [hx, hy] at e ⊢
    have e2 : x = y := e
    rw [e2]
  · intro s
    show s ∈ es.map (fun p => Go.intOf p.1) ↔ _
    have h1 : 0 ≤ F s ↔ has (.map es) (.int .i64 s) = true := by
      rw [hD.1]
      constructor
      · exact fun h => ⟨s, rfl, h⟩
      · rintro ⟨t, e, h⟩
        simp only [Lit.int.injEq, true_and] at e
        rw [e]; exact h
    rw [h1, has_mem, List.mem_map]
    constructor
    · rintro ⟨p, hp, e⟩
      obtain ⟨x, hx⟩ := hk p hp
      refine ⟨p, hp, ?_⟩
      rw [hx] at e ⊢
      have e2 : x = s := e
      rw [e2]
    · rintro ⟨p, hp, e⟩
      exact ⟨p, hp, by rw [e]; rfl⟩
set_option maxHeartbeats 1000000 in
theorem sorted_impl (b o m n : Nat) (F : Int → Int) (w : World) (hm : PtrMap Try.prog w 3 b o m n F) (hn : n ≤ 1048576) :
    Calls Try.prog 24 #[.func (.func 37) #[] #[.pointer (some ⟨w.heap.size, 0, none⟩)]] (w.alloc (.cells #[.map (some m)] 52)) fun e w' =>
      ∃ (v : Value) (L : List Int), e = .returned v ∧ L.Pairwise (· < ·) ∧ (∀ s, s ∈ L ↔ 0 ≤ F s) ∧ w'.ownsRow (w.alloc (.cells #[.map (some m)] 52)).heap.size 3 1 v L.length (L.map (Value.int .i64)) ∧ L.length ≤ n ∧
        Below (w.alloc (.cells #[.map (some m)] 52)).heap.size (w.alloc (.cells #[.map (some m)] 52)) w' := by
  obtain ⟨D, ho, hD⟩ := hm
  have hbl := ho.lt
  have hsz := ho.size_le
  have hseq : SeqGives Fence.wide 2 Try.prog 37 #[.pointer (some ⟨w.heap.size, 0, none⟩)] encZ (fun ss => ss.Perm (Go.intKeys D)) (Maps.size D) (w.alloc (.cells #[.map (some m)] 52)) :=
    AnyZI.keys_gives (ρ := Try.keysL_ren) { Try.keysL with } Fence.wide _ trivial rfl (by omega) w.heap.size m n D _ (by simp) (by simp) (by
      obtain ⟨es, clock, hb, Ft, hs, hD⟩ := ho
      exact ⟨es, clock, (Below.heap_alloc _ _ m hbl).trans hb, Ft, hs, hD⟩)
  have cS := AnyZI.sorted_in Try.sortedL Fence.wide 5 trivial trivial trivial trivial rfl (by omega) (sortsL _) (Go.Proofs.enters_of Try.func36 (by kernel_rfl) rfl) 37 #[.pointer (some ⟨w.heap.size, 0, none⟩)] trivial (Go.Proofs.enters_of Try.func37 (by kernel_rfl) rfl) _ (Maps.size D) (by unfold maxLen; omega) (by omega) _ hseq
  refine (callsIn_wide.1 cS).mono ?_
  rintro e w' ⟨v, ss, rfl, hS, hrow, hnil, hb⟩
  obtain ⟨hnd, hmem⟩ := PtrMap.keys ho hD
  have hlen : (ss.mergeSort (fun x y => decide (x ≤ y))).length = ss.length := List.length_mergeSort _
  refine ⟨v, ss.mergeSort (fun x y => decide (x ≤ y)), rfl, ?_, fun s => ?_, ?_, ?_, hb⟩
  · have hp : (ss.mergeSort (fun x y => decide (x ≤ y))).Pairwise (fun a b => decide (a ≤ b) = true) := List.pairwise_mergeSort (fun a b c h1 h2 => by simp at h1 h2 ⊢; omega) (fun a b => by simp; omega) ss
    have hn2 : (ss.mergeSort (fun x y => decide (x ≤ y))).Nodup := (List.mergeSort_perm ss _).nodup_iff.2 (hS.nodup_iff.2 hnd)
    exact (hp.and hn2).imp fun h => by have h1 := h.1; simp at h1; have := h.2; omega
  · rw [(List.mergeSort_perm ss _).mem_iff, hS.mem_iff]; exact hmem s
  · rw [hlen]; exact hrow
  · rw [hlen, hS.length_eq]
    have : (Go.intKeys D).length = Maps.size D := by
      obtain ⟨es, rfl, _⟩ := ho.entries kInt
      show (es.map fun p => Go.intOf p.1).length = es.length
      simp
    omega
end Go.Proofs.Ytojkonhhaamodaa
set_option linter.unusedVariables false
namespace Go.Proofs.Ytojkonhhaamodaa
open Go.RowKit Go.Maps

theorem IntRow.off {w w' : World} {v : Value} {n lo hi : Nat} {g : Nat → Int} {row : Option Nat} (h : IntRow w v n g) (hv : InW lo hi v) (hg : w.grownBy w' row) (hr : ∀ q, row = some q → q < lo ∨ hi ≤ q) : IntRow w' v n g := by
  cases row with
  | none => exact h.touch (Touch.grown (lo := hi) (hi := hi) hg (fun k hk => by cases hk)) (fun _ => hv) (.inl (Nat.le_refl _))
  | some q =>
    rcases hr q rfl with h1 | h1
    · exact h.touch (Touch.grown (lo := 0) (hi := lo) hg (fun k hk => by cases hk; omega)) (fun _ => hv) (.inr (Nat.le_refl _))
    · exact h.touch (Touch.grown (lo := hi) (hi := q + 1) hg (fun k hk => by cases hk; omega)) (fun _ => hv) (.inl (Nat.le_refl _))
theorem take_next (L : List Int) (k : Nat) (hk : k < L.length) : L.take (k + 1) = L.take k ++ [getI L k] := by
  have : getI L k = L[k] := by simp [getI, List.getD_eq_getElem?_getD, List.getElem?_eq_getElem hk]
  rw [this]
  exact (List.take_append_getElem hk).symm
set_option maxRecDepth 100000 in
set_option maxHeartbeats 1000000 in
theorem canonNotes_impl (v : Value) (n : Nat) (g : Nat → NoteD) (w : World) (hf : ∀ i, (g i).fit) (hv : NoteRow w v n g) (hn6 : n ≤ 1048576) :
    Calls Try.prog 9 #[v] w (NotesL w (canonL g n)) := by
  obtain ⟨i0, hi, hz0, hz1, hz2⟩ := info_parts Try.infoNote
  obtain ⟨aa, cap, B, O, rfl, hn63, hat⟩ := hv.at
  have CF := Lib.hid (firstNotes_impl aa n cap B O g w hf hat hn6)
  have HAT := Lib.hid hat
  have HF := Lib.hid hf
  clear hv hat hf
  go_enter Try.func9, Try.ntmps9
  go_wp2_with fail
  refine CF.out.mono ?_
  rintro e w1 ⟨M, rfl, hM, hm1, b1⟩
  have HM1 := Lib.hid hm1
  have HB1 := Lib.hid b1
  have z1 := b1.size
  have HML0 := Lib.hid hm1.lt
  obtain ⟨D, ho, _⟩ := hm1
  have hsl := ho.size_le
  obtain ⟨w2, hmk, o2, g2⟩ := run_makeSlice_owned (P := Try.prog) w1 w.heap.size 30 39 i0 _ 7 Try.underlying30 hi hz0 hz1 .i64 .i64 (Maps.size D) (by omega) (by rw [hz2]; omega) (by unfold maxLen; omega) z1
  have HO2 := Lib.hid o2
  have HM2 := Lib.hid (HM1.out.grown g2 (by simp))
  have HB2 := Lib.hid (b1.grown g2 z1 (by simp))
  have z2 := HB2.out.size
  have z12 := g2.size
  have HOW := Lib.hid ho
  clear CF HM1 b1 o2 g2 ho
  go_wp2_with (at_len; refine wpList_len_own _ rfl (.tmp 9) 52 rfl 3 55 Try.underlying52 _ M n D rfl HOW.out ?_)
  clear HOW hmk
  generalize hcz : Maps.size D = cz at *
  clear hcz
  go_wp2_with fail
  refine (keys_impl (some M) w2).mono ?_
  rintro e w3 ⟨rfl, rfl⟩
  go_wp2_with fail
  refine (sorted_impl B O M n (firstS g n) w2 HM2.out hn6).mono ?_
  rintro e w4 ⟨kv, L, rfl, hL1, hL2, hL3, hL4, b4⟩
  have b5 := below_prev b4
  have HML : Hid (M < w1.heap.size ∧ w1.heap.size ≤ w4.heap.size) := Lib.hid ⟨HML0.out, by have := b5.size; omega⟩
  have HCE := Lib.hid (canon_eq g n L hL1 hL2)
  have HIN := Lib.hid (fun s hs => (hL2 s).1 hs)
  have HO4 := Lib.hid (owns_below HO2.out b5 (Nat.le_refl _))
  have HM4 := Lib.hid (HM2.out.below b5 (Nat.le_refl _))
  have HB4 := Lib.hid (HB2.out.trans (b5.mono z2))
  have HL4 := Lib.hid (IntRow.of_list hL3 (by omega))
  have HIL := Lib.hid (InW.of_owns hL3)
  obtain ⟨ka, kc, hkv⟩ := owns_form hL3
  subst hkv
  have hs3 : (w2.alloc (.cells #[.map (some M)] 52)).heap.size = w2.heap.size + 1 := by simp
  rw [hs3] at HIL
  have HW2 : Hid (w2.heap.size < w2.heap.size + 1) := Lib.hid (Nat.lt_succ_self _)
  have hO2w : Hid (∀ q, (Value.slice (some ⟨w1.heap.size, 0, none⟩) 0 cz).ownBlock = some q → q < w2.heap.size) := Lib.hid fun q hq => (HO2.out.lt q hq).2
  clear hL1 hL2 hL3 b4 b5 HO2 HM2 HB2 hs3
  go_wp2
  go_loopw [4, 16] (fun out i wr => ∃ k : Nat, k ≤ L.length ∧ i = .int .i64 k ∧ Hid (wr.ownsRow w.heap.size 39 7 out k (((L.take k).map fun s => g (firstS g n s).toNat).flatMap NoteD.cells)) ∧ Hid (PtrMap Try.prog wr 3 B O M n (firstS g n)) ∧ Hid (IntRow wr (.slice ka L.length kc) L.length (getI L)) ∧ Hid (∀ q, out.ownBlock = some q → (q < w2.heap.size ∨ w4.heap.size ≤ q) ∧ q ≠ M) ∧ w4.heap.size ≤ wr.heap.size ∧ Hid (Below w.heap.size w wr)) (fun _ i _ => L.length - (intOf i).toNat)
  case atStart => exact ⟨0, Nat.zero_le _, rfl, Lib.hid (by simpa using HO4.out), HM4, HL4, Lib.hid (fun q hq => ⟨.inl (hO2w.out q hq), by have := HML.out; simp [Value.ownBlock] at hq; omega⟩), Nat.le_refl _, HB4⟩
  case round =>
    clear HO4 HM4 HL4 HB4 hO2w
    obtain ⟨k, hk, rfl, hown, hm, hrow, hat, hsz4, hb⟩ := hrel
    have hsz := hb.out.size
    by_cases hlt : k < L.length
    · obtain ⟨kb, ko, hkb, hc0⟩ : ∃ kb ko, ka = some ⟨kb, ko, none⟩ ∧ wr.cell? ⟨kb, ko + k, none⟩ = some (.int .i64 (getI L k)) := by
        rcases hrow.out with ⟨_, _, he, h0⟩ | ⟨kb, ko, kc', he, _, _, hc, _⟩
        · omega
        · simp only [Value.slice.injEq] at he
          exact ⟨kb, ko, he.1, hc k hlt⟩
      subst hkb
      have hin : 0 ≤ firstS g n (getI L k) := HIN.out _ (by unfold getI; rw [List.getD_eq_getElem?_getD, List.getElem?_eq_getElem hlt]; exact List.getElem_mem hlt)
      obtain ⟨j, hj⟩ : ∃ j : Nat, firstS g n (getI L k) = (j : Int) := ⟨(firstS g n (getI L k)).toNat, by omega⟩
      have hjn : j < n ∧ (g j).serial = getI L k := by
        rcases firstS_spec g (getI L k) n with ⟨h1, _⟩ | ⟨j', h1, h2, h3, _⟩
        · omega
        · obtain rfl : j = j' := by omega
          exact ⟨h2, h3⟩
      have hwf : (Lit.int .i64 (getI L k)).wf = true := by rw [← hjn.2]; exact wfI (HF.out j).1
      have hlk := hm.out.run kInt Try.underlying52 Try.underlying3 (zPtrN wr) hwf
      rw [hj, ptrV_nat] at hlk
      obtain ⟨rfl, _, hnc⟩ := HAT.out (by omega)
      have hq := (hnc j hjn.1).belowB hb.out (hnc j hjn.1).1
      have HNX : Hid ((((L.take (k + 1)).map fun s => g (firstS g n s).toNat).flatMap NoteD.cells) = (((L.take k).map fun s => g (firstS g n s).toNat).flatMap NoteD.cells) ++ (g j).cells) := Lib.hid (by
        rw [take_next L k hlt, List.map_append, List.flatMap_append]
        simp [hj])
      generalize getI L k = sk at *
      generalize g j = x at *
      generalize ((L.take k).map fun s => g (firstS g n s).toNat).flatMap NoteD.cells = xs at *
      have hxl := hown.out.1
      obtain ⟨c0, c1, c2, c3, c4, c5, c6⟩ := note_cells hq
      have hcl := hq.1
      clear hjn hwf hnc hq hin hj HAT HF HCE
      go_wp2_with (at_builtin; refine wpList_pushL rfl (.tmp 20) (.tmp 26) 30 rfl w.heap.size 39 Try.underlying30 hi hz0 hz1 hz2 rfl (by decide) x.cells rfl (by intro u hu; simp [NoteD.cells] at hu; rcases hu with rfl | rfl | rfl | rfl | rfl | rfl | rfl <;> rfl) rfl (by show Value.slice (some ⟨_, 0, none⟩) 1 1 = _; simp) hown.out (by unfold maxLen; omega) (by omega) hsz ?_; intro gg cc5 w5 o5 g5 at5 lt5)
      have h5s := g5.size
      have HR5 := Lib.hid (hrow.out.off HIL.out g5 (fun q hq => by have := (hat.out q hq).1; omega))
      have HM5 := Lib.hid (hm.out.grown g5 (fun e => (hat.out M e.symm).2 rfl))
      have HA5 : Hid (∀ q, (Value.slice (some ⟨gg, 0, none⟩) (k + 1) cc5).ownBlock = some q → (q < w2.heap.size ∨ w4.heap.size ≤ q) ∧ q ≠ M) := Lib.hid fun q hq => by
        simp [Value.ownBlock] at hq
        subst hq
        rcases at5 with h | h
        · exact hat.out gg h
        · have h' : wr.heap.size ≤ gg := h
          have := HML.out
          exact ⟨.inr (by omega), by omega⟩
      go_roundw
      case rel => exact ⟨k + 1, by omega, by go_num, Lib.hid (by rw [HNX.out]; exact o5), HM5, HR5, HA5, by omega, Lib.hid (hb.out.grown g5 hsz (fun q hq => (hown.out.lt q hq).1))⟩
      case measure => simp [intOf]; omega
    · obtain rfl : k = L.length := by omega
      have ho := hown.out
      rw [List.take_length, ← HCE.out] at ho
      have hlen : L.length = (canonL g n).length := by rw [HCE.out]; simp
      rw [hlen] at ho
      go_wp2
      go_ret
      exact ⟨_, rfl, ho, hb.out⟩
end Go.Proofs.Ytojkonhhaamodaa
set_option linter.unusedVariables false
namespace Go.Proofs.Ytojkonhhaamodaa
open Go.RowKit Go.Maps

/-- the map holds the first notes that are still to come, and of the others those that stand -/
def standing (g : Nat → NoteD) (n : Nat) (left : Lit → Bool) (F : Int → Int) : Prop :=
  (∀ s, F s = if left (.int .i64 s) = true then firstS g n s else standS g n s) ∧ ∀ s, left (.int .i64 s) = true → 0 ≤ firstS g n s
theorem standing.start {g : Nat → NoteD} {n : Nat} {left : Lit → Bool} (h : ∀ kl, left kl = true ↔ ∃ s : Int, kl = .int .i64 s ∧ 0 ≤ firstS g n s) : standing g n left (firstS g n) := by
  have h0 : ∀ s, left (.int .i64 s) = true ↔ 0 ≤ firstS g n s := fun s => by
    rw [h]
    constructor
    · rintro ⟨t, e, ht⟩
      simp only [Lit.int.injEq, true_and] at e
      rw [e]; exact ht
    · exact fun ht => ⟨s, rfl, ht⟩
  refine ⟨fun s => ?_, fun s hs => (h0 s).1 hs⟩
  by_cases e : left (.int .i64 s) = true
  · rw [if_pos e]
  · rw [if_neg e]
    have : ¬ 0 ≤ firstS g n s := fun h => e ((h0 s).2 h)
    unfold standS
    rw [if_neg fun h => this h.1]
    have := firstS_ge g n s
    omega
theorem left_struck {left : Lit → Bool} {s t : Int} : ((left (.int .i64 t) && !(Lit.int .i64 t).sameKey (.int .i64 s)) = true) ↔ left (.int .i64 t) = true ∧ t ≠ s := by
  rw [same_int]; simp
theorem standing.step {g : Nat → NoteD} {n : Nat} {left left' : Lit → Bool} {F F' : Int → Int} {s : Int} {j : Nat} (h : standing g n left F) (hl : left (.int .i64 s) = true) (hj : F s = (j : Int))
    (hl' : ∀ t, left' (.int .i64 t) = true ↔ left (.int .i64 t) = true ∧ t ≠ s) (h1 : F' s = if s < serialN g (g j).game n then -1 else (j : Int)) (h2 : ∀ t, t ≠ s → F' t = F t) : standing g n left' F' := by
  have hs := h.1 s
  rw [if_pos hl, hj] at hs
  refine ⟨fun t => ?_, fun t ht => h.2 t ((hl' t).1 ht).1⟩
  by_cases e : t = s
  · subst e
    rw [if_neg (fun e2 => ((hl' t).1 e2).2 rfl), h1]
    unfold standS
    have e0 : (firstS g n t).toNat = j := by rw [← hs]; simp
    by_cases hlt : t < serialN g (g j).game n
    · rw [if_pos hlt, if_neg (fun e2 => e2.2 (by rw [e0]; exact hlt))]
    · rw [if_neg hlt, if_pos ⟨by omega, by rw [e0]; exact hlt⟩, hs]
  · rw [h2 t e, h.1 t]
    by_cases e2 : left (.int .i64 t) = true
    · rw [if_pos e2, if_pos ((hl' t).2 ⟨e2, e⟩)]
    · rw [if_neg e2, if_neg (fun e3 => e2 ((hl' t).1 e3).1)]
theorem standing.index {g : Nat → NoteD} {n : Nat} {left : Lit → Bool} {F : Int → Int} {s : Int} {j : Nat} (h : standing g n left F) (hl : left (.int .i64 s) = true) (hj : F s = (j : Int)) : j < n ∧ (g j).serial = s := by
  have hs := h.1 s
  rw [if_pos hl, hj] at hs
  rcases firstS_spec g s n with ⟨h1, _⟩ | ⟨j', h1, h2, h3, _⟩
  · omega
  · obtain rfl : j = j' := by omega
    exact ⟨h2, h3⟩
set_option maxRecDepth 100000 in
set_option maxHeartbeats 1000000 in
theorem standingNotes_impl (aa : Option Addr) (n cap B O : Nat) (g : Nat → NoteD) (w : World) (hf : ∀ i, (g i).fit) (hat : NotesAt w aa n cap B O g) (hn6 : n ≤ 1048576) :
    Calls Try.prog 23 #[.slice aa n cap] w fun e w' => ∃ M, e = .returned (.map (some M)) ∧ w.heap.size ≤ M ∧ PtrMap Try.prog w' 3 B O M n (standS g n) ∧ Below w.heap.size w w' := by
  have CF := Lib.hid (firstNotes_impl aa n cap B O g w hf hat hn6)
  have HAT := Lib.hid hat
  have HF := Lib.hid hf
  clear hat hf
  go_enter Try.func23, Try.ntmps23
  go_wp2_with fail
  refine CF.out.mono ?_
  rintro e w1 ⟨M, rfl, hM, hm1, b1⟩
  have HB1 := Lib.hid b1
  have z1 := b1.size
  clear CF b1
  go_wp2_with (at_range; refine wpList_ptrRange rfl (.tmp 8) 52 rfl 3 55 kInt Try.underlying52 B O M n (firstS g n) rfl hm1 ?_; intro w2 left0 cnt0 hl0 hr0 g2 s2)
  go_frame
  have HR0 := Lib.hid hr0
  have HST := Lib.hid (standing.start hl0)
  have HB2 := Lib.hid (HB1.out.grown g2 z1 (by simp))
  obtain ⟨r, hr⟩ : ∃ r, w1.heap.size = r := ⟨_, rfl⟩
  have hMr : M ≠ r := by have := hm1.lt; omega
  rw [hr] at HR0 ⊢
  have hr1 : w.heap.size ≤ r := by omega
  have HRM : Hid (M < r) := Lib.hid (by rw [← hr]; exact hm1.lt)
  clear hr0 hl0 g2 hm1 HB1
  go_loopw [4] (fun _ wr => ∃ (left : Lit → Bool) (cnt : Nat) (F : Int → Int), Hid (PtrRange Try.prog wr 3 B O M r n F left cnt) ∧ Hid (standing g n left F) ∧ Hid (Below w.heap.size w wr)) (fun _ wr => wr.rangeLeft M r)
  case atStart => exact ⟨left0, cnt0, _, HR0, HST, HB2⟩
  case round =>
    clear HR0 HST HB2
    obtain ⟨left, cnt, F, hrg, hst, hb⟩ := hrel
    have hsz := hb.out.size
    go_wp2_with (at_next; refine wpList_ptrNext rfl (.tmp 9) rfl 3 kInt Try.underlying3 B O M r n F left cnt rfl hrg.out ?_ ?_)
    · intro hl0
      go_wp2
      go_ret
      exact ⟨M, rfl, hM, hrg.out.owns.congr fun s => by rw [hst.out.1 s, if_neg (by rw [hl0]; simp)], hb.out⟩
    · intro s j w3 cnt3 hwf hlk hFs hrg3 hlt3 hg3 hs3 hen
      have HIDX := Lib.hid (hst.out.index hlk hFs)
      have hjn := HIDX.out.1
      have hb3 := Lib.hid (hb.out.grown hg3 hsz (fun q hq => by cases hq; omega))
      have hsz3 := hb3.out.size
      obtain ⟨rfl, _, hnc⟩ := HAT.out (by omega)
      have hq := (hnc j hjn).belowB hb3.out (hnc j hjn).1
      have HA3 := Lib.hid (HAT.out.below hb3.out (Nat.le_refl _))
      have CS := Lib.hid (serialOf_impl (.slice (some ⟨B, O, none⟩) n cap) n g (g j).game w3 (HA3.out.row (by omega)))
      have HSTEP := Lib.hid (fun left' F' => hst.out.step (left' := left') (F' := F') hlk hFs)
      have HRG3 := Lib.hid hrg3
      have HWF := Lib.hid hwf
      obtain ⟨c0, c1, c2, c3, c4, c5, c6⟩ := note_cells hq
      have hcl := hq.1
      generalize g j = x at *
      generalize serialN g x.game n = sv at *
      have HLT3 := Lib.hid hlt3
      clear hq hnc HF HAT hrg3 hst hlk hwf HA3 HIDX hjn hlt3
      go_wp2_with fail
      refine CS.out.mono ?_
      rintro e w4 ⟨rfl, b4⟩
      have HRG4 := Lib.hid (HRG3.out.below b4 (Nat.le_refl _))
      have HB4 := Lib.hid (hb3.out.trans (b4.mono hsz3))
      have hsz4 := HB4.out.size
      clear CS b4 HRG3 hb3 c0 c1 c2 c3 c4 c5 c6 hcl hen hb hg3
      by_cases hsv : s < sv
      · have g1 : decide (s < sv) = true := decide_eq_true hsv
        have HSV := Lib.hid hsv
        clear hsv
        go_wp2_with (at_delete; refine wpList_ptrDel rfl (.tmp 23) (.tmp 24) 52 3 rfl 55 kInt Try.underlying52 Try.underlying3 B O M r n F (fun t => if t = s then -1 else F t) _ cnt3 rfl HRG4.out s rfl HWF.out (if_pos rfl) (fun t ht => if_neg ht) ?_; intro w5 cnt5 hrg5 hle5 g5)
        go_frame
        go_roundw
        case rel =>
          refine ⟨_, cnt5, _, Lib.hid hrg5, Lib.hid (HSTEP.out _ _ (fun t => ?_) ?_ (fun t ht => if_neg ht)), Lib.hid (HB4.out.grown g5 hsz4 (fun q hq => by cases hq; omega))⟩
          · rw [Bool.and_eq_true, left_struck, same_int]; simp
          · rw [if_pos HSV.out]; exact if_pos rfl
        case measure =>
          have := HLT3.out
          rw [hrg5.left_eq, hrg.out.left_eq]; omega
      · have g1 : decide (s < sv) = false := decide_eq_false hsv
        have HSV := Lib.hid hsv
        clear hsv
        go_wp2
        go_roundw
        case rel => exact ⟨_, cnt3, F, HRG4, Lib.hid (HSTEP.out _ _ (fun t => left_struck) (by rw [if_neg (by have := HSV.out; omega)]; exact hFs) (fun t ht => rfl)), HB4⟩
        case measure =>
          have := HLT3.out
          rw [HRG4.out.left_eq, hrg.out.left_eq]; omega
end Go.Proofs.Ytojkonhhaamodaa
