/-
  The model's making of rules: l03Draw, MakeRules.
-/
import Derived.Test.YtoingkchjiipgaaRulesOk
import Derived.Test.YtoingkchjiipgaaCur
import Derived.Test.YtoingkchjiipgaaLawKit
import Derived.Test.YtoingkchjiipgaaPush
set_option linter.unusedVariables false
namespace Go.Proofs.Ytoingkchjiipgaa
open Go.RowKit

theorem Cur.belowW {B base : Nat} {a : Option Addr} {len cap : Nat} {g : Nat → Nat} {w w' : World} (h : Cur B a len cap g w) (hb : Below base w w') (hB : B < base) : Cur B a len cap g w' := by
  obtain ⟨i, x, hh, hi⟩ := h.blk
  refine ⟨⟨i, x, (hb.block B hB).trans hh, hi⟩, fun h0 => ?_, h.low, h.small, h.fits⟩
  obtain ⟨b, off, h1, h2⟩ := h.row h0
  have := h.low h0 b off h1
  exact ⟨b, off, h1, fun i hi => (hb.cell (p := ⟨b, off + i, none⟩) (show b < base by omega)).trans (h2 i hi)⟩
theorem Cur.ltW {B : Nat} {a : Option Addr} {len cap : Nat} {g : Nat → Nat} {w : World} (h : Cur B a len cap g w) : B < w.heap.size := by
  obtain ⟨i, x, hh, hi⟩ := h.blk
  exact (Array.getElem?_eq_some_iff.1 hh).1
theorem l01Once_any (B : Nat) (a : Option Addr) (len cap : Nat) (g : Nat → Nat) (n : Nat) (w : World) (hc : Cur B a len cap g w) (h0 : 0 < n) (hn : n ≤ 256) :
    Calls Try.prog 82 #[.pointer (some ⟨B, 0, none⟩), .int .i64 (n : Int)] w fun e w' => (∃ r : Bool, e = .returned (.bool r)) ∧ Cur B a len cap g w' ∧ w.grownBy w' (some B) := by
  have C := Lib.hid (l01Below_small B a len cap g n w hc h0 hn)
  clear hc
  go_enter Try.func82, Try.ntmps82
  go_wp2_with fail
  refine C.out.mono ?_
  rintro e w1 ⟨x, hx, rfl, c1, g1⟩
  have C1 := Lib.hid c1
  have G1 := Lib.hid g1
  clear c1 g1
  go_wp2
  go_ret
  exact ⟨⟨_, rfl⟩, C1.out, G1.out⟩
/-- the keys of a drawn ladder, before the last -/
def drawnL (L : List Int) : Prop := L.head? = some 1 ∧ (∀ i, 0 < i → i < L.length → 2 ≤ getI L i ∧ getI L i ≤ 7) ∧ ∀ i j, i < j → j < L.length → getI L i ≠ getI L j
theorem getI_last (L : List Int) (x : Int) : getI (L ++ [x]) L.length = x := by simp [getI]
theorem getI_left (L : List Int) (x : Int) (i : Nat) (h : i < L.length) : getI (L ++ [x]) i = getI L i := by
  simp only [getI, List.getD_eq_getElem?_getD]; rw [List.getElem?_append_left h]
theorem drawnL.push {L : List Int} {x : Int} (h : drawnL L) (hx : 2 ≤ x ∧ x ≤ 7) (hn : ¬ hasP (getI L) x L.length) : drawnL (L ++ [x]) := by
  obtain ⟨h1, h2, h3⟩ := h
  have hl : 0 < L.length := by cases L with
    | nil => simp at h1
    | cons _ _ => simp
  refine ⟨by rw [List.head?_append]; rw [h1]; rfl, fun i h0 hi => ?_, fun i j hij hj => ?_⟩
  · simp only [List.length_append, List.length_cons, List.length_nil] at hi
    by_cases e : i = L.length
    · rw [e, getI_last]; exact hx
    · rw [getI_left _ _ _ (by omega)]; exact h2 i h0 (by omega)
  · simp only [List.length_append, List.length_cons, List.length_nil] at hj
    rw [getI_left _ _ i (by omega)]
    by_cases e : j = L.length
    · rw [e, getI_last]; exact fun he => hn ⟨i, by omega, he⟩
    · rw [getI_left _ _ j (by omega)]; exact h3 i j hij (by omega)
/-- drawn rules -/
def RulesGood (win : Int) (L : List Int) : Prop := (win = 2 ∨ win = 3) ∧ ∃ K, L = K ++ [8] ∧ drawnL K ∧ K.length ≤ 4
/-- what a round of the drawing holds of the world: block D is the rules' box, v the ladder -/
def DrawS (B : Nat) (a : Option Addr) (len cap : Nat) (g : Nat → Nat) (w0 : World) (D : Nat) (win : Int) (ag : Bool) (L : List Int) (w : World) : Prop :=
  ∃ v, Cur B a len cap g w ∧ w.heap[D]? = some (.cells #[.int .i64 win, .int .i64 1, .int .i64 0, v, .bool ag] 26 (0, 0)) ∧
    w.ownsRow (w0.heap.size + 1) 3 1 v L.length (L.map (Value.int .i64)) ∧ v.ownBlock ≠ some D ∧ (∃ aa cc, v = .slice aa L.length cc) ∧ w0.grownBy w (some B) ∧ B < w0.heap.size ∧ w0.heap.size + 1 ≤ D ∧
    w.heap[w0.heap.size]? = some (.cells #[.int .i64 0, .int .i64 0, .int .i64 0, .slice none 0 0, .bool false] 26 (0, 0))
def RulesDrawn (B : Nat) (a : Option Addr) (len cap : Nat) (g : Nat → Nat) (w : World) (e : Ending) (w' : World) : Prop :=
  ∃ v win ag L, e = .returned (.agg #[.int .i64 win, .int .i64 1, .int .i64 0, v, .bool ag]) ∧ RulesGood win L ∧ w'.ownsRow w.heap.size 3 1 v L.length (L.map (Value.int .i64)) ∧ Cur B a len cap g w' ∧ w.grownBy w' (some B)
theorem World.grownBy_set (w : World) (B j : Nat) (z : Value) : w.grownBy (w.setCell ⟨B, j, none⟩ z) (some B) := grown_set w B j z
theorem grown_to {w0 w w' : World} {B : Nat} (h : w0.grownBy w (some B)) (hb : Below w.heap.size w w') : w0.grownBy w' (some B) :=
  grown_trans h ⟨hb.os, hb.tape, hb.output, hb.size, fun k hk _ => hb.block k hk⟩
section
variable {B : Nat} {a : Option Addr} {len cap : Nat} {g : Nat → Nat} {w0 : World} {D : Nat} {win : Int} {ag : Bool} {L : List Int} {w w' : World}
theorem DrawS.cur (h : DrawS B a len cap g w0 D win ag L w) : Cur B a len cap g w := h.choose_spec.1
/-- another number is drawn -/
theorem DrawS.drawn (h : DrawS B a len cap g w0 D win ag L w) (hc : Cur B a len cap g w') (hg : w.grownBy w' (some B)) : DrawS B a len cap g w0 D win ag L w' := by
  obtain ⟨v, h1, h2, h3, h4, h5, h6, h7, h8, h9⟩ := h
  have hD : D < w.heap.size := (Array.getElem?_eq_some_iff.1 h2).1
  refine ⟨v, hc, (hg.block D hD (by intro e; simp at e; omega)).trans h2, h3.kept hg ?_, h4, h5, grown_trans h6 hg, h7, h8, (hg.block _ (by omega) (by intro e; simp at e; omega)).trans h9⟩
  cases hv : v.ownBlock with
  | none => exact .inl rfl
  | some k =>
    refine .inr fun e => ?_
    have := (h3.lt k hv).1
    simp at e; omega
theorem DrawS.open (h : DrawS B a len cap g w0 D win ag L w) (hL : L.length ≤ 9) :
    ∃ v, w.cell? ⟨D, 0, none⟩ = some (.int .i64 win) ∧ w.cell? ⟨D, 1, none⟩ = some (.int .i64 1) ∧ w.cell? ⟨D, 2, none⟩ = some (.int .i64 0) ∧ w.cell? ⟨D, 3, none⟩ = some v ∧ w.cell? ⟨D, 4, none⟩ = some (.bool ag) ∧
      w.frozen? ⟨D, 3, none⟩ = false ∧ IntRow w v L.length (getI L) ∧ w.ownsRow (w0.heap.size + 1) 3 1 v L.length (L.map (Value.int .i64)) ∧ (∃ aa cc, v = .slice aa L.length cc) ∧ w0.heap.size + 1 ≤ w.heap.size ∧ (w0.heap.size + 1 ≤ D ∧ v.ownBlock ≠ some D ∧ D < w.heap.size) ∧ (∀ w', w.grownBy w' v.ownBlock → w'.heap[D]? = some (.cells #[.int .i64 win, .int .i64 1, .int .i64 0, v, .bool ag] 26 (0, 0)) ∧ w'.heap[w0.heap.size]? = some (.cells #[.int .i64 0, .int .i64 0, .int .i64 0, .slice none 0 0, .bool false] 26 (0, 0))) ∧
      ∀ x v' w', w'.ownsRow (w0.heap.size + 1) 3 1 v' (L.length + 1) (L.map (Value.int .i64) ++ [.int .i64 x]) → w.grownBy w' v.ownBlock →
        (∃ gg cc, v' = .slice (some ⟨gg, 0, none⟩) (L.length + 1) cc ∧ (v.ownBlock = some gg ∨ w.heap.size ≤ gg)) → DrawS B a len cap g w0 D win ag (L ++ [x]) (w'.setCell ⟨D, 3, none⟩ v') := by
  obtain ⟨v, h1, h2, h3, h4, h5, h6, h7, h8, h9⟩ := h
  have hD : D < w.heap.size := (Array.getElem?_eq_some_iff.1 h2).1
  have c : ∀ j, w.cell? ⟨D, j, none⟩ = #[.int .i64 win, .int .i64 1, .int .i64 0, v, .bool ag][j]? := fun j => cell_of_row w D j _ _ (0, 0) h2
  have hk : ∀ w', w.grownBy w' v.ownBlock → w'.heap[D]? = w.heap[D]? := fun w' hg => hg.block D hD (fun e => h4 e.symm)
  have hkR : ∀ w', w.grownBy w' v.ownBlock → w'.heap[w0.heap.size]? = w.heap[w0.heap.size]? := fun w' hg => hg.block _ (by omega) (fun e => by have := (h3.lt _ e.symm).1; omega)
  refine ⟨v, c 0, c 1, c 2, c 3, c 4, frozen_of_row w D 3 _ _ h2, IntRow.of_list h3 (by omega), h3, h5, Nat.le_trans h8 (by omega), ⟨h8, h4, hD⟩, fun w' hg => ⟨(hk w' hg).trans h2, (hkR w' hg).trans h9⟩, fun x v' w' o' hg hv' => ?_⟩
  obtain ⟨gg, cc, rfl, hat⟩ := hv'
  have hgD : gg ≠ D := by
    rcases hat with h9 | h9
    · intro e; exact h4 (by rw [h9, e])
    · omega
  have hw9 : w'.heap[D]? = _ := (hk w' hg).trans h2
  have hB : w0.heap.size ≤ w.heap.size := h6.size
  have hbel : Below w0.heap.size w (w'.setCell ⟨D, 3, none⟩ (.slice (some ⟨gg, 0, none⟩) (L.length + 1) cc)) :=
    ((Below.refl _ _).grown hg hB (fun k hk => by have := (h3.lt k hk).1; omega)).setCell (by show w0.heap.size ≤ D; omega) _
  refine ⟨.slice (some ⟨gg, 0, none⟩) (L.length + 1) cc, h1.belowW hbel h7, ?_, ?_, ?_, ⟨some ⟨gg, 0, none⟩, cc, by simp⟩, ?_, h7, h8, ?_⟩
  · rw [heap_setCell_same w' D 3 _ _ _ hw9]; rfl
  · have := (o'.kept (World.grownBy_set w' D 3 (.slice (some ⟨gg, 0, none⟩) (L.length + 1) cc)) (.inr fun e => hgD (by simpa [Value.ownBlock] using e)))
    simpa using this
  · intro e; exact hgD (by simpa [Value.ownBlock] using e)
  · exact ⟨hbel.os.trans h6.os, hbel.tape.trans h6.tape, hbel.output.trans h6.output, Nat.le_trans hB hbel.size, fun k hk hne => (hbel.block k hk).trans (h6.block k hk hne)⟩
  · rw [Below.heap_setCell _ _ _ _ (by show w0.heap.size ≠ D; omega), hkR w' hg]; exact h9
theorem DrawS.grown (h : DrawS B a len cap g w0 D win ag L w) : w0.grownBy w (some B) ∧ B < w0.heap.size := by
  obtain ⟨v, h1, h2, h3, h4, h5, h6, h7, _⟩ := h
  exact ⟨h6, h7⟩
theorem drawn_end {w5 w9 : World} {V : Value} {x : Nat} (hx : x < 2) (hL : drawnL L) (hLl : L.length ≤ 4) (h : DrawS B a len cap g w0 D win ag (L ++ [8]) w5) (ho : w9.ownsRow (w0.heap.size + 1) 3 1 V (L.length + 1) (L.map (Value.int .i64) ++ [.int .i64 8]))
    (hb : Below w0.heap.size w5 w9) : RulesDrawn B a len cap g w0 (.returned (.agg #[.int .i64 (2 + (x : Int)), .int .i64 1, .int .i64 0, V, .bool ag])) w9 := by
  obtain ⟨h6, h7⟩ := h.grown
  refine ⟨V, _, ag, L ++ [8], rfl, ⟨by omega, L, rfl, hL, hLl⟩, ?_, h.cur.belowW hb h7, hb.os.trans h6.os, hb.tape.trans h6.tape, hb.output.trans h6.output, Nat.le_trans h6.size hb.size, fun k hk hne => (hb.block k hk).trans (h6.block k hk hne)⟩
  have := owns_mono ho (base' := w0.heap.size) (by omega)
  simpa using this
end
set_option maxRecDepth 100000 in
set_option maxHeartbeats 1000000 in
theorem l03Draw_any (B : Nat) (a : Option Addr) (len cap : Nat) (g : Nat → Nat) (w : World) (hc : Cur B a len cap g w) :
    Calls Try.prog 65 #[.pointer (some ⟨B, 0, none⟩)] w (RulesDrawn B a len cap g w) := by
  obtain ⟨i0, hi, hz0, hz1, hz2⟩ := info_parts Try.infoI
  have hlB := hc.ltW
  have L1 := Lib.hid (fun w1 hc (m : Nat) (h1 : 0 < m) (h2 : m ≤ 256) => l01Below_small B a len cap g m w1 hc h1 h2)
  have L2 := Lib.hid (fun w1 hc => l01Once_any B a len cap g 2 w1 hc (by omega) (by omega))
  have HC := Lib.hid hc
  clear hc
  go_enter Try.func65, Try.ntmps65
  go_wp2_with fail
  refine (L1.out _ (HC.out.belowW ((Below.refl _ w).alloc (Nat.le_refl _) _) hlB) 2 (by omega) (by omega)).mono ?_
  rintro e w1 ⟨x, hx, rfl, c1, g1⟩
  have G1 : Hid (w.grownBy w1 (some B)) := grown_trans (World.grownBy_alloc w _ _) g1
  have H1 : Hid (w1.heap[w.heap.size]? = some (.cells #[.int .i64 0, .int .i64 0, .int .i64 0, .slice none 0 0, .bool false] 26 (0, 0))) := by
    show _ = _
    rw [g1.block _ (by simp) (by intro e; simp at e; omega)]; exact heap_alloc_new w _
  have C1 := Lib.hid c1
  have F1 : Hid (w1.heap.size > w.heap.size) := by have := g1.size; simp at this; show w1.heap.size > w.heap.size; omega
  clear c1 g1
  go_wp2_with fail
  refine (L2.out _ C1.out).mono ?_
  rintro e w2 ⟨⟨ag, rfl⟩, c2, g2⟩
  have H0 : Hid (w2.heap[w.heap.size]? = some (.cells #[.int .i64 0, .int .i64 0, .int .i64 0, .slice none 0 0, .bool false] 26 (0, 0))) := by
    show _ = _
    rw [g2.block _ F1.out (by intro e; simp at e; omega)]; exact H1.out
  have G2 := Lib.hid (grown_trans G1.out g2)
  have C2 := Lib.hid c2
  have F2 : Hid (w2.heap.size > w.heap.size) := by have := g2.size; have := F1.out; show w2.heap.size > w.heap.size; omega
  clear c2 g2 C1 G1 F1
  go_wp2_with fail
  refine (L1.out _ (C2.out.belowW (((Below.refl _ w2).alloc (Nat.le_refl _) _).alloc (by simp) _) C2.out.ltW) 4 (by omega) (by omega)).mono ?_
  rintro e w3 ⟨m, hm, rfl, c3, g3⟩
  have S3 : Hid (DrawS B a len cap g w (w2.heap.size + 1) (2 + (x : Int)) ag [1] w3) := by
    have hlt2 := C2.out.ltW
    have hsz2 := F2.out
    have hsz2' : w.heap.size < w2.heap.size := hsz2
    have W2 : ∀ (o1 o2 : Obj), (((w2.alloc o1).alloc o2).heap[w2.heap.size]? = some o1 ∧ ((w2.alloc o1).alloc o2).heap[w2.heap.size + 1]? = some o2) := fun o1 o2 => by
      refine ⟨?_, ?_⟩
      · rw [Below.heap_alloc _ _ _ (by simp)]; exact heap_alloc_new w2 o1
      · have := heap_alloc_new (w2.alloc o1) o2; simpa using this
    have hs3 := g3.size
    simp only [World.size_alloc] at hs3
    refine ⟨.slice (some ⟨w2.heap.size, 0, none⟩) 1 1, c3, ?_, ⟨rfl, .inr ⟨w2.heap.size, 1, #[.int .i64 1], rfl, hsz2', ?_, Nat.le_refl _, by decide, rfl, rfl⟩⟩, by simp [Value.ownBlock], ⟨_, _, rfl⟩, ?_, hlB, by omega, ?_⟩
    · exact (g3.block _ (by simp) (by intro e; simp at e; omega)).trans (W2 _ _).2
    · exact (g3.block _ (by simp; omega) (by intro e; simp at e; omega)).trans (W2 _ _).1
    · exact grown_trans (grown_to G2.out (((Below.refl _ w2).alloc (Nat.le_refl _) _).alloc (by simp) _)) g3
    · rw [g3.block _ (by simp; omega) (by intro e; simp at e; omega), Below.heap_alloc _ _ _ (by simp; omega), Below.heap_alloc _ _ _ (by omega)]
      exact H0.out
  generalize w2.heap.size + 1 = D at *
  clear c3 g3 G2 C2 F2 L2 HC H0 H1
  go_wp2
  go_loopw [4] (fun i wr => ∃ (j : Nat) (L : List Int), i = .int .i64 j ∧ L.length + j ≤ 4 ∧ Hid (drawnL L) ∧ Hid (DrawS B a len cap g w D (2 + (x : Int)) ag L wr)) (fun i _ => (intOf i).toNat)
  case atStart => exact ⟨m, [1], rfl, by simp; omega, ⟨rfl, fun i h0 hi => absurd hi (by simp; omega), fun i j hij hj => absurd hj (by simp; omega)⟩, S3.out⟩
  case round =>
    clear S3
    obtain ⟨j, L, rfl, hj, hL, hS⟩ := hrel
    by_cases hlt : 0 < j
    · have C1 := Lib.hid hS.out.cur
      go_wp2_with fail
      refine (L1.out _ C1.out 6 (by omega) (by omega)).mono ?_
      rintro e w4 ⟨y, hy, rfl, c4, g4⟩
      have S4 := Lib.hid (hS.out.drawn c4 g4)
      obtain ⟨v, k0, k1, k2, k3, k4, f3, r4, o4, ⟨aa, cc, hv⟩, hsz, ⟨hRD, hvD, hDlt⟩, hf4, hpush⟩ := S4.out.open (by omega)
      have R4 := Lib.hid r4
      have O4 := Lib.hid o4
      have P4 := Lib.hid (hpush (2 + (y : Int)))
      have F4 := Lib.hid hf4
      subst hv
      clear c4 g4 hS C1 r4 o4 hpush hf4
      by_cases hh : hasP (getI L) (2 + (y : Int)) L.length
      · go_wp2_with fail
        refine (l02Has_yes _ L.length (getI L) _ _ R4.out hh).mono ?_
        rintro e w' ⟨rfl, rfl⟩
        go_wp2
        go_roundw
        case rel => exact ⟨j - 1, L, by go_num, by omega, hL, S4⟩
        case measure => simp [intOf]; omega
      · go_wp2_with fail
        refine (l02Has_no _ L.length (getI L) _ _ R4.out hh).mono ?_
        rintro e w' ⟨rfl, rfl⟩
        have hL2 := Lib.hid (hL.out.push (x := 2 + (y : Int)) (by omega) hh)
        have HN := Lib.hid hh
        clear hh
        go_wp2_with (at_builtin; refine wpList_pushL rfl (.tmp 28) (.tmp 30) 24 rfl (w.heap.size + 1) 3 Try.underlying24 hi hz0 hz1 hz2 rfl (by decide) [.int .i64 (2 + (y : Int))] rfl (by intro u hu; simp at hu; subst hu; rfl) rfl rfl O4.out (by unfold maxLen; omega) (by omega) hsz ?_; intro gg cc5 w5 o5 g5 at5 lt5; have S5 := Lib.hid (P4.out _ w5 o5 g5 ⟨_, _, rfl, at5⟩); have f5 : w5.frozen? ⟨D, 3, none⟩ = false := frozen_of_row w5 D 3 _ _ (F4.out w5 g5).1; have e5 := cell_of_row w5 D 3 _ _ (0, 0) (F4.out w5 g5).1)
        go_roundw
        case rel => exact ⟨j - 1, L ++ [2 + (y : Int)], by go_num, by simp; omega, hL2, S5⟩
        case measure => simp [intOf]; omega
    · obtain rfl : j = 0 := by omega
      obtain ⟨v, k0, k1, k2, k3, k4, f3, r4, o4, ⟨aa, cc, hv⟩, hsz, ⟨hRD, hvD, hDlt⟩, hf4, hpush⟩ := hS.out.open (by omega)
      have O4 := Lib.hid o4
      have P4 := Lib.hid (hpush 8)
      have F4 := Lib.hid hf4
      subst hv
      have HVD := Lib.hid hvD
      have n1 : ¬ (w.heap.size = D) := by omega
      have n2 : ¬ (D = w.heap.size) := by omega
      clear hS r4 o4 hpush hf4 hvD
      go_wp2_with (at_builtin; refine wpList_pushL rfl (.tmp 34) (.tmp 35) 24 rfl (w.heap.size + 1) 3 Try.underlying24 hi hz0 hz1 hz2 rfl (by decide) [.int .i64 8] rfl (by intro u hu; simp at hu; subst hu; rfl) rfl rfl O4.out (by unfold maxLen; omega) (by omega) hsz ?_; intro gg cc5 w5 o5 g5 at5 lt5; have S5 := Lib.hid (P4.out _ w5 o5 g5 ⟨_, _, rfl, at5⟩); have W5 := F4.out w5 g5; have f5 : w5.frozen? ⟨D, 3, none⟩ = false := frozen_of_row w5 D 3 _ _ W5.1; have d5 := fun j => cell_of_row w5 D j _ _ (0, 0) W5.1; have q5 := fun j => cell_of_row w5 w.heap.size j _ _ (0, 0) W5.2; have r5 := fun j => frozen_of_row w5 w.heap.size j _ _ W5.2; have hlt5 := (Array.getElem?_eq_some_iff.1 W5.2).1; have hlt6 := (Array.getElem?_eq_some_iff.1 W5.1).1; have e0 : w5.cell? ⟨D, 0, none⟩ = some (.int .i64 (2 + (x : Int))) := d5 0; have e1 : w5.cell? ⟨D, 1, none⟩ = some (.int .i64 1) := d5 1; have e2 : w5.cell? ⟨D, 2, none⟩ = some (.int .i64 0) := d5 2; have e3 : w5.cell? ⟨D, 3, none⟩ = some (.slice aa L.length cc) := d5 3; have e4 : w5.cell? ⟨D, 4, none⟩ = some (.bool ag) := d5 4; have q0 : w5.cell? ⟨w.heap.size, 0, none⟩ = some (.int .i64 0) := q5 0; have r0 := r5 0; have q1 : w5.cell? ⟨w.heap.size, 1, none⟩ = some (.int .i64 0) := q5 1; have r1 := r5 1; have q2 : w5.cell? ⟨w.heap.size, 2, none⟩ = some (.int .i64 0) := q5 2; have r2 := r5 2; have q3 : w5.cell? ⟨w.heap.size, 3, none⟩ = some (.slice none 0 0) := q5 3; have r3 := r5 3; have q4 : w5.cell? ⟨w.heap.size, 4, none⟩ = some (.bool false) := q5 4; have r4 := r5 4; clear d5 q5 r5 W5)
      have hgD : gg ≠ D := by
        rcases at5 with h9 | h9
        · intro e; exact HVD.out (Eq.trans h9 (by rw [e]))
        · omega
      have hgR : w.heap.size + 1 ≤ gg := (o5.lt gg rfl).1
      have O5 := Lib.hid o5
      clear o5 at5 g5
      go_wp2
      refine bodyPost_ret (v := .agg #[.int .i64 (2 + (x : Int)), .int .i64 1, .int .i64 0, .slice (some ⟨gg, 0, none⟩) (L.length + 1) cc5, .bool ag]) (by simp [results, Try.results65, go_sem, q0, q1, q2, q3, q4]) rfl ?_
      refine drawn_end hx hL.out (by omega) S5.out ?_ ?_
      · iterate 5 (refine (World.ownsRow.kept ?_ (World.grownBy_set _ w.heap.size _ _) (.inr (by intro e; simp [Value.ownBlock] at e; omega))))
        exact (O5.out.kept (World.grownBy_set _ D 3 _) (.inr (by intro e; simp [Value.ownBlock] at e; omega)))
      · iterate 5 (refine Below.setCell ?_ (by simp) _)
        exact Below.refl _ _
/-- rules have been made -/
def RulesIs (w : World) (e : Ending) (w' : World) : Prop :=
  ∃ v win ag L, e = .returned (.agg #[.int .i64 win, .int .i64 1, .int .i64 0, v, .bool ag]) ∧ RulesGood win L ∧ w'.ownsRow w.heap.size 3 1 v L.length (L.map (Value.int .i64)) ∧ Below w.heap.size w w'
end Go.Proofs.Ytoingkchjiipgaa
