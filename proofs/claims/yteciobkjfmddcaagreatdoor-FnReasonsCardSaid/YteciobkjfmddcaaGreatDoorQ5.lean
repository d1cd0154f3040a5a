/-
  Packed: RulesMake, SeasonMake, SeasonMake2, Num, IntFmt, FieldMake.
-/
import Derived.Deep.DeepCutAuto
import Derived.Lib.ItoaNum
import Derived.Lib.AtoiAll
import Derived.Test.YteciobkjfmddcaaGreatDoorShelf
import Derived.Test.YteciobkjfmddcaaGreatDoorProg
import Derived.Laws.BytesArg
import Derived.Deep.RegionWith
import Derived.WalkSmall
import Derived.Sort.Grow
import Derived.KernelRfl
import Derived.Outline
import Derived.Deep.RegionHeld3
import Derived.Deep.AppendLies
import Derived.Test.YteciobkjfmddcaaGreatDoorQ1
import Derived.Test.YteciobkjfmddcaaGreatDoorQ2
import Derived.Test.YteciobkjfmddcaaGreatDoorQ3
import Derived.Test.YteciobkjfmddcaaGreatDoorQ4
set_option linter.unusedVariables false
namespace Go.Proofs.YteciobkjfmddcaaGreatDoor
open Go.RowKit

theorem Cur.belowW {B base : Nat} {a : Option Addr} {len cap : Nat} {g : Nat → Nat} {w w' : World} (h : Cur B a len cap g w) (hb : Below base w w') (hB : B < base) : Cur B a len cap g w' := by
  obtain ⟨i, x, hh, hi⟩ := h.blk
  refine ⟨⟨i, x, (hb.block B hB).trans hh, hi⟩, fun h0 => ?_, h.low, h.small, h.fits⟩
  obtain ⟨b, off, h1, h2⟩ := h.row h0
  have := h.low h0 b off h1
  exact ⟨b, off, h1, fun i hi => (hb.cell (p := ⟨b, off + i, none⟩) (show b < base by omega)).trans (h2 i hi)⟩
theorem Cur.ltW {B : Nat} {a : Option Addr} {len cap : Nat} {g : Nat → Nat} {w : World} (h : Cur B a len cap g w) : B < w.heap.size := by
  obtain ⟨i, x, hh, hi⟩ := h.blk
  exact (Array.getElem?_eq_some_iff.1 hh).1
theorem l01Once_any (B : Nat) (a : Option Addr) (len cap : Nat) (g : Nat → Nat) (n : Nat) (w : World) (hc : Cur B a len cap g w) (h0 : 0 < n) (hn : n ≤ 256) :
    Calls Tryz.prog 59 #[.pointer (some ⟨B, 0, none⟩), .int .i64 (n : Int)] w fun e w' => (∃ r : Bool, e = .returned (.bool r)) ∧ Cur B a len cap g w' ∧ w.grownBy w' (some B) := by
  have C := Lib.hid (l01Below_small B a len cap g n w hc h0 hn)
  clear hc
  go_enter Tryz.func59, Tryz.ntmps59
  go_wp2_with fail
  refine C.out.mono ?_
  rintro e w1 ⟨x, hx, rfl, c1, g1⟩
  have C1 := Lib.hid c1
  have G1 := Lib.hid g1
  clear c1 g1
  go_wp2
  go_ret
  exact ⟨⟨_, rfl⟩, C1.out, G1.out⟩
def drawnL (L : List Int) : Prop := L.head? = some 1 ∧ (∀ i, 0 < i → i < L.length → 2 ≤ getI L i ∧ getI L i ≤ 7) ∧ ∀ i j, i < j → j < L.length → getI L i ≠ getI L j
theorem getI_last (L : List Int) (x : Int) : getI (L ++ [x]) L.length = x := by simp [getI]
theorem getI_left (L : List Int) (x : Int) (i : Nat) (h : i < L.length) : getI (L ++ [x]) i = getI L i := by
  simp only [getI, List.getD_eq_getElem?_getD]; rw [List.getElem?_append_left h]
theorem drawnL.push {L : List Int} {x : Int} (h : drawnL L) (hx : 2 ≤ x ∧ x ≤ 7) (hn : ¬ hasP (getI L) x L.length) : drawnL (L ++ [x]) := by
  obtain ⟨h1, h2, h3⟩ := h
  have hl : 0 < L.length := by cases L with
    | nil => simp at h1
    | cons _ _ => simp
  refine ⟨by rw [List.head?_append]; rw [h1]; rfl, fun i h0 hi => ?_, fun i j hij hj => ?_⟩
  · simp only [List.length_append, List.length_cons, List.length_nil] at hi
    by_cases e : i = L.length
    · rw [e, getI_last]; exact hx
    · rw [getI_left _ _ _ (by omega)]; exact h2 i h0 (by omega)
  · simp only [List.length_append, List.length_cons, List.length_nil] at hj
    rw [getI_left _ _ i (by omega)]
    by_cases e : j = L.length
    · rw [e, getI_last]; exact fun he => hn ⟨i, by omega, he⟩
    · rw [getI_left _ _ j (by omega)]; exact h3 i j hij (by omega)
def RulesGood (win : Int) (L : List Int) : Prop := (win = 2 ∨ win = 3) ∧ ∃ K, L = K ++ [8] ∧ drawnL K ∧ K.length ≤ 4
def DrawS (B : Nat) (a : Option Addr) (len cap : Nat) (g : Nat → Nat) (w0 : World) (D : Nat) (win : Int) (ag : Bool) (L : List Int) (w : World) : Prop :=
  ∃ v, Cur B a len cap g w ∧ w.heap[D]? = some (.cells #[.int .i64 win, .int .i64 1, .int .i64 0, v, .bool ag] 26 (0, 0)) ∧
    w.ownsRow (w0.heap.size + 1) 3 1 v L.length (L.map (Value.int .i64)) ∧ v.ownBlock ≠ some D ∧ (∃ aa cc, v = .slice aa L.length cc) ∧ w0.grownBy w (some B) ∧ B < w0.heap.size ∧ w0.heap.size + 1 ≤ D ∧
    w.heap[w0.heap.size]? = some (.cells #[.int .i64 0, .int .i64 0, .int .i64 0, .slice none 0 0, .bool false] 26 (0, 0))
def RulesDrawn (B : Nat) (a : Option Addr) (len cap : Nat) (g : Nat → Nat) (w : World) (e : Ending) (w' : World) : Prop :=
  ∃ v win ag L, e = .returned (.agg #[.int .i64 win, .int .i64 1, .int .i64 0, v, .bool ag]) ∧ RulesGood win L ∧ w'.ownsRow w.heap.size 3 1 v L.length (L.map (Value.int .i64)) ∧ Cur B a len cap g w' ∧ w.grownBy w' (some B)
theorem World.grownBy_set (w : World) (B j : Nat) (z : Value) : w.grownBy (w.setCell ⟨B, j, none⟩ z) (some B) := grown_set w B j z
theorem grown_to {w0 w w' : World} {B : Nat} (h : w0.grownBy w (some B)) (hb : Below w.heap.size w w') : w0.grownBy w' (some B) :=
  grown_trans h ⟨hb.os, hb.tape, hb.output, hb.size, fun k hk _ => hb.block k hk⟩
section
variable {B : Nat} {a : Option Addr} {len cap : Nat} {g : Nat → Nat} {w0 : World} {D : Nat} {win : Int} {ag : Bool} {L : List Int} {w w' : World}
theorem DrawS.cur (h : DrawS B a len cap g w0 D win ag L w) : Cur B a len cap g w := h.choose_spec.1
theorem DrawS.drawn (h : DrawS B a len cap g w0 D win ag L w) (hc : Cur B a len cap g w') (hg : w.grownBy w' (some B)) : DrawS B a len cap g w0 D win ag L w' := by
  obtain ⟨v, h1, h2, h3, h4, h5, h6, h7, h8, h9⟩ := h
  have hD : D < w.heap.size := (Array.getElem?_eq_some_iff.1 h2).1
  refine ⟨v, hc, (hg.block D hD (by intro e; simp at e; omega)).trans h2, h3.kept hg ?_, h4, h5, grown_trans h6 hg, h7, h8, (hg.block _ (by omega) (by intro e; simp at e; omega)).trans h9⟩
  cases hv : v.ownBlock with
  | none => exact .inl rfl
  | some k =>
    refine .inr fun e => ?_
    have := (h3.lt k hv).1
    simp at e; omega
theorem DrawS.open (h : DrawS B a len cap g w0 D win ag L w) (hL : L.length ≤ 9) :
    ∃ v, w.cell? ⟨D, 0, none⟩ = some (.int .i64 win) ∧ w.cell? ⟨D, 1, none⟩ = some (.int .i64 1) ∧ w.cell? ⟨D, 2, none⟩ = some (.int .i64 0) ∧ w.cell? ⟨D, 3, none⟩ = some v ∧ w.cell? ⟨D, 4, none⟩ = some (.bool ag) ∧
      w.frozen? ⟨D, 3, none⟩ = false ∧ IntRow w v L.length (getI L) ∧ w.ownsRow (w0.heap.size + 1) 3 1 v L.length (L.map (Value.int .i64)) ∧ (∃ aa cc, v = .slice aa L.length cc) ∧ w0.heap.size + 1 ≤ w.heap.size ∧ (w0.heap.size + 1 ≤ D ∧ v.ownBlock ≠ some D ∧ D < w.heap.size) ∧ (∀ w', w.grownBy w' v.ownBlock → w'.heap[D]? = some (.cells #[.int .i64 win, .int .i64 1, .int .i64 0, v, .bool ag] 26 (0, 0)) ∧ w'.heap[w0.heap.size]? = some (.cells #[.int .i64 0, .int .i64 0, .int .i64 0, .slice none 0 0, .bool false] 26 (0, 0))) ∧
      ∀ x v' w', w'.ownsRow (w0.heap.size + 1) 3 1 v' (L.length + 1) (L.map (Value.int .i64) ++ [.int .i64 x]) → w.grownBy w' v.ownBlock →
        (∃ gg cc, v' = .slice (some ⟨gg, 0, none⟩) (L.length + 1) cc ∧ (v.ownBlock = some gg ∨ w.heap.size ≤ gg)) → DrawS B a len cap g w0 D win ag (L ++ [x]) (w'.setCell ⟨D, 3, none⟩ v') := by
  obtain ⟨v, h1, h2, h3, h4, h5, h6, h7, h8, h9⟩ := h
  have hD : D < w.heap.size := (Array.getElem?_eq_some_iff.1 h2).1
  have c : ∀ j, w.cell? ⟨D, j, none⟩ = #[.int .i64 win, .int .i64 1, .int .i64 0, v, .bool ag][j]? := fun j => cell_of_row w D j _ _ (0, 0) h2
  have hk : ∀ w', w.grownBy w' v.ownBlock → w'.heap[D]? = w.heap[D]? := fun w' hg => hg.block D hD (fun e => h4 e.symm)
  have hkR : ∀ w', w.grownBy w' v.ownBlock → w'.heap[w0.heap.size]? = w.heap[w0.heap.size]? := fun w' hg => hg.block _ (by omega) (fun e => by have := (h3.lt _ e.symm).1; omega)
  refine ⟨v, c 0, c 1, c 2, c 3, c 4, frozen_of_row w D 3 _ _ h2, IntRow.of_list h3 (by omega), h3, h5, Nat.le_trans h8 (by omega), ⟨h8, h4, hD⟩, fun w' hg => ⟨(hk w' hg).trans h2, (hkR w' hg).trans h9⟩, fun x v' w' o' hg hv' => ?_⟩
  obtain ⟨gg, cc, rfl, hat⟩ := hv'
  have hgD : gg ≠ D := by
    rcases hat with h9 | h9
    · intro e; exact h4 (by rw [h9, e])
    · omega
  have hw9 : w'.heap[D]? = _ := (hk w' hg).trans h2
  have hB : w0.heap.size ≤ w.heap.size := h6.size
  have hbel : Below w0.heap.size w (w'.setCell ⟨D, 3, none⟩ (.slice (some ⟨gg, 0, none⟩) (L.length + 1) cc)) :=
    ((Below.refl _ _).grown hg hB (fun k hk => by have := (h3.lt k hk).1; omega)).setCell (by show w0.heap.size ≤ D; omega) _
  refine ⟨.slice (some ⟨gg, 0, none⟩) (L.length + 1) cc, h1.belowW hbel h7, ?_, ?_, ?_, ⟨some ⟨gg, 0, none⟩, cc, by simp⟩, ?_, h7, h8, ?_⟩
  · rw [heap_setCell_same w' D 3 _ _ _ hw9]; rfl
  · have := (o'.kept (World.grownBy_set w' D 3 (.slice (some ⟨gg, 0, none⟩) (L.length + 1) cc)) (.inr fun e => hgD (by simpa [Value.ownBlock] using e)))
    simpa using this
  · intro e; exact hgD (by simpa [Value.ownBlock] using e)
  · exact ⟨hbel.os.trans h6.os, hbel.tape.trans h6.tape, hbel.output.trans h6.output, Nat.le_trans hB hbel.size, fun k hk hne => (hbel.block k hk).trans (h6.block k hk hne)⟩
  · rw [Below.heap_setCell _ _ _ _ (by show w0.heap.size ≠ D; omega), hkR w' hg]; exact h9
theorem DrawS.grown (h : DrawS B a len cap g w0 D win ag L w) : w0.grownBy w (some B) ∧ B < w0.heap.size := by
  obtain ⟨v, h1, h2, h3, h4, h5, h6, h7, _⟩ := h
  exact ⟨h6, h7⟩
theorem drawn_end {w5 w9 : World} {V : Value} {x : Nat} (hx : x < 2) (hL : drawnL L) (hLl : L.length ≤ 4) (h : DrawS B a len cap g w0 D win ag (L ++ [8]) w5) (ho : w9.ownsRow (w0.heap.size + 1) 3 1 V (L.length + 1) (L.map (Value.int .i64) ++ [.int .i64 8]))
    (hb : Below w0.heap.size w5 w9) : RulesDrawn B a len cap g w0 (.returned (.agg #[.int .i64 (2 + (x : Int)), .int .i64 1, .int .i64 0, V, .bool ag])) w9 := by
  obtain ⟨h6, h7⟩ := h.grown
  refine ⟨V, _, ag, L ++ [8], rfl, ⟨by omega, L, rfl, hL, hLl⟩, ?_, h.cur.belowW hb h7, hb.os.trans h6.os, hb.tape.trans h6.tape, hb.output.trans h6.output, Nat.le_trans h6.size hb.size, fun k hk hne => (hb.block k hk).trans (h6.block k hk hne)⟩
  have := owns_mono ho (base' := w0.heap.size) (by omega)
  simpa using this
end
set_option maxRecDepth 100000 in
set_option maxHeartbeats 1000000 in
theorem l03Draw_any (B : Nat) (a : Option Addr) (len cap : Nat) (g : Nat → Nat) (w : World) (hc : Cur B a len cap g w) :
    Calls Tryz.prog 30 #[.pointer (some ⟨B, 0, none⟩)] w (RulesDrawn B a len cap g w) := by
  obtain ⟨i0, hi, hz0, hz1, hz2⟩ := info_parts Tryz.infoI
  have hlB := hc.ltW
  have L1 := Lib.hid (fun w1 hc (m : Nat) (h1 : 0 < m) (h2 : m ≤ 256) => l01Below_small B a len cap g m w1 hc h1 h2)
  have L2 := Lib.hid (fun w1 hc => l01Once_any B a len cap g 2 w1 hc (by omega) (by omega))
  have HC := Lib.hid hc
  clear hc
  go_enter Tryz.func30, Tryz.ntmps30
  go_wp2_with fail
  refine (L1.out _ (HC.out.belowW ((Below.refl _ w).alloc (Nat.le_refl _) _) hlB) 2 (by omega) (by omega)).mono ?_
  rintro e w1 ⟨x, hx, rfl, c1, g1⟩
  have G1 : Hid (w.grownBy w1 (some B)) := grown_trans (World.grownBy_alloc w _ _) g1
  have H1 : Hid (w1.heap[w.heap.size]? = some (.cells #[.int .i64 0, .int .i64 0, .int .i64 0, .slice none 0 0, .bool false] 26 (0, 0))) := by
    show _ = _
    rw [g1.block _ (by simp) (by intro e; simp at e; omega)]; exact heap_alloc_new w _
  have C1 := Lib.hid c1
  have F1 : Hid (w1.heap.size > w.heap.size) := by have := g1.size; simp at this; show w1.heap.size > w.heap.size; omega
  clear c1 g1
  go_wp2_with fail
  refine (L2.out _ C1.out).mono ?_
  rintro e w2 ⟨⟨ag, rfl⟩, c2, g2⟩
  have H0 : Hid (w2.heap[w.heap.size]? = some (.cells #[.int .i64 0, .int .i64 0, .int .i64 0, .slice none 0 0, .bool false] 26 (0, 0))) := by
    show _ = _
    rw [g2.block _ F1.out (by intro e; simp at e; omega)]; exact H1.out
  have G2 := Lib.hid (grown_trans G1.out g2)
  have C2 := Lib.hid c2
  have F2 : Hid (w2.heap.size > w.heap.size) := by have := g2.size; have := F1.out; show w2.heap.size > w.heap.size; omega
  clear c2 g2 C1 G1 F1
  go_wp2_with fail
  refine (L1.out _ (C2.out.belowW (((Below.refl _ w2).alloc (Nat.le_refl _) _).alloc (by simp) _) C2.out.ltW) 4 (by omega) (by omega)).mono ?_
  rintro e w3 ⟨m, hm, rfl, c3, g3⟩
  have S3 : Hid (DrawS B a len cap g w (w2.heap.size + 1) (2 + (x : Int)) ag [1] w3) := by
    have hlt2 := C2.out.ltW
    have hsz2 := F2.out
    have hsz2' : w.heap.size < w2.heap.size := hsz2
    have W2 : ∀ (o1 o2 : Obj), (((w2.alloc o1).alloc o2).heap[w2.heap.size]? = some o1 ∧ ((w2.alloc o1).alloc o2).heap[w2.heap.size + 1]? = some o2) := fun o1 o2 => by
      refine ⟨?_, ?_⟩
      · rw [Below.heap_alloc _ _ _ (by simp)]; exact heap_alloc_new w2 o1
      · have := heap_alloc_new (w2.alloc o1) o2; simpa using this
    have hs3 := g3.size
    simp only [World.size_alloc] at hs3
    refine ⟨.slice (some ⟨w2.heap.size, 0, none⟩) 1 1, c3, ?_, ⟨rfl, .inr ⟨w2.heap.size, 1, #[.int .i64 1], rfl, hsz2', ?_, Nat.le_refl _, by decide, rfl, rfl⟩⟩, by simp [Value.ownBlock], ⟨_, _, rfl⟩, ?_, hlB, by omega, ?_⟩
    · exact (g3.block _ (by simp) (by intro e; simp at e; omega)).trans (W2 _ _).2
    · exact (g3.block _ (by simp; omega) (by intro e; simp at e; omega)).trans (W2 _ _).1
    · exact grown_trans (grown_to G2.out (((Below.refl _ w2).alloc (Nat.le_refl _) _).alloc (by simp) _)) g3
    · rw [g3.block _ (by simp; omega) (by intro e; simp at e; omega), Below.heap_alloc _ _ _ (by simp; omega), Below.heap_alloc _ _ _ (by omega)]
      exact H0.out
  generalize w2.heap.size + 1 = D at *
  clear c3 g3 G2 C2 F2 L2 HC H0 H1
  go_wp2
  go_loopw [4] (fun i wr => ∃ (j : Nat) (L : List Int), i = .int .i64 j ∧ L.length + j ≤ 4 ∧ Hid (drawnL L) ∧ Hid (DrawS B a len cap g w D (2 + (x : Int)) ag L wr)) (fun i _ => (RowKit.intOf i).toNat)
  case atStart => exact ⟨m, [1], rfl, by simp; omega, ⟨rfl, fun i h0 hi => absurd hi (by simp; omega), fun i j hij hj => absurd hj (by simp; omega)⟩, S3.out⟩
  case round =>
    clear S3
    obtain ⟨j, L, rfl, hj, hL, hS⟩ := hrel
    by_cases hlt : 0 < j
    · have C1 := Lib.hid hS.out.cur
      go_wp2_with fail
      refine (L1.out _ C1.out 6 (by omega) (by omega)).mono ?_
      rintro e w4 ⟨y, hy, rfl, c4, g4⟩
      have S4 := Lib.hid (hS.out.drawn c4 g4)
      obtain ⟨v, k0, k1, k2, k3, k4, f3, r4, o4, ⟨aa, cc, hv⟩, hsz, ⟨hRD, hvD, hDlt⟩, hf4, hpush⟩ := S4.out.open (by omega)
      have R4 := Lib.hid r4
      have O4 := Lib.hid o4
      have P4 := Lib.hid (hpush (2 + (y : Int)))
      have F4 := Lib.hid hf4
      subst hv
      clear c4 g4 hS C1 r4 o4 hpush hf4
      by_cases hh : hasP (getI L) (2 + (y : Int)) L.length
      · go_wp2_with fail
        refine (l02Has_yes _ L.length (getI L) _ _ R4.out hh).mono ?_
        rintro e w' ⟨rfl, rfl⟩
        go_wp2
        go_roundw
        case rel => exact ⟨j - 1, L, by go_num, by omega, hL, S4⟩
        case measure => simp [RowKit.intOf]; omega
      · go_wp2_with fail
        refine (l02Has_no _ L.length (getI L) _ _ R4.out hh).mono ?_
        rintro e w' ⟨rfl, rfl⟩
        have hL2 := Lib.hid (hL.out.push (x := 2 + (y : Int)) (by omega) hh)
        have HN := Lib.hid hh
        clear hh
        go_wp2_with (at_builtin; refine wpList_pushL rfl (.tmp 28) (.tmp 30) 24 rfl (w.heap.size + 1) 3 Tryz.underlying24 hi hz0 hz1 hz2 rfl (by decide) [.int .i64 (2 + (y : Int))] rfl (by intro u hu; simp at hu; subst hu; rfl) rfl rfl O4.out (by unfold maxLen; omega) (by omega) hsz ?_; intro gg cc5 w5 o5 g5 at5 lt5; have S5 := Lib.hid (P4.out _ w5 o5 g5 ⟨_, _, rfl, at5⟩); have f5 : w5.frozen? ⟨D, 3, none⟩ = false := frozen_of_row w5 D 3 _ _ (F4.out w5 g5).1; have e5 := cell_of_row w5 D 3 _ _ (0, 0) (F4.out w5 g5).1)
        go_roundw
        case rel => exact ⟨j - 1, L ++ [2 + (y : Int)], by go_num, by simp; omega, hL2, S5⟩
        case measure => simp [RowKit.intOf]; omega
    · obtain rfl : j = 0 := by omega
      obtain ⟨v, k0, k1, k2, k3, k4, f3, r4, o4, ⟨aa, cc, hv⟩, hsz, ⟨hRD, hvD, hDlt⟩, hf4, hpush⟩ := hS.out.open (by omega)
      have O4 := Lib.hid o4
      have P4 := Lib.hid (hpush 8)
      have F4 := Lib.hid hf4
      subst hv
      have HVD := Lib.hid hvD
      have n1 : ¬ (w.heap.size = D) := by omega
      have n2 : ¬ (D = w.heap.size) := by omega
      clear hS r4 o4 hpush hf4 hvD
      go_wp2_with (at_builtin; refine wpList_pushL rfl (.tmp 34) (.tmp 35) 24 rfl (w.heap.size + 1) 3 Tryz.underlying24 hi hz0 hz1 hz2 rfl (by decide) [.int .i64 8] rfl (by intro u hu; simp at hu; subst hu; rfl) rfl rfl O4.out (by unfold maxLen; omega) (by omega) hsz ?_; intro gg cc5 w5 o5 g5 at5 lt5; have S5 := Lib.hid (P4.out _ w5 o5 g5 ⟨_, _, rfl, at5⟩); have W5 := F4.out w5 g5; have f5 : w5.frozen? ⟨D, 3, none⟩ = false := frozen_of_row w5 D 3 _ _ W5.1; have d5 := fun j => cell_of_row w5 D j _ _ (0, 0) W5.1; have q5 := fun j => cell_of_row w5 w.heap.size j _ _ (0, 0) W5.2; have r5 := fun j => frozen_of_row w5 w.heap.size j _ _ W5.2; have hlt5 := (Array.getElem?_eq_some_iff.1 W5.2).1; have hlt6 := (Array.getElem?_eq_some_iff.1 W5.1).1; have e0 : w5.cell? ⟨D, 0, none⟩ = some (.int .i64 (2 + (x : Int))) := d5 0; have e1 : w5.cell? ⟨D, 1, none⟩ = some (.int .i64 1) := d5 1; have e2 : w5.cell? ⟨D, 2, none⟩ = some (.int .i64 0) := d5 2; have e3 : w5.cell? ⟨D, 3, none⟩ = some (.slice aa L.length cc) := d5 3; have e4 : w5.cell? ⟨D, 4, none⟩ = some (.bool ag) := d5 4; have q0 : w5.cell? ⟨w.heap.size, 0, none⟩ = some (.int .i64 0) := q5 0; have r0 := r5 0; have q1 : w5.cell? ⟨w.heap.size, 1, none⟩ = some (.int .i64 0) := q5 1; have r1 := r5 1; have q2 : w5.cell? ⟨w.heap.size, 2, none⟩ = some (.int .i64 0) := q5 2; have r2 := r5 2; have q3 : w5.cell? ⟨w.heap.size, 3, none⟩ = some (.slice none 0 0) := q5 3; have r3 := r5 3; have q4 : w5.cell? ⟨w.heap.size, 4, none⟩ = some (.bool false) := q5 4; have r4 := r5 4; clear d5 q5 r5 W5)
      have hgD : gg ≠ D := by
        rcases at5 with h9 | h9
        · intro e; exact HVD.out (Eq.trans h9 (by rw [e]))
        · omega
      have hgR : w.heap.size + 1 ≤ gg := (o5.lt gg rfl).1
      have O5 := Lib.hid o5
      clear o5 at5 g5
      go_wp2
      refine bodyPost_ret (v := .agg #[.int .i64 (2 + (x : Int)), .int .i64 1, .int .i64 0, .slice (some ⟨gg, 0, none⟩) (L.length + 1) cc5, .bool ag]) (by simp [results, Tryz.results30, go_sem, q0, q1, q2, q3, q4]) rfl ?_
      refine drawn_end hx hL.out (by omega) S5.out ?_ ?_
      · iterate 5 (refine (World.ownsRow.kept ?_ (World.grownBy_set _ w.heap.size _ _) (.inr (by intro e; simp [Value.ownBlock] at e; omega))))
        exact (O5.out.kept (World.grownBy_set _ D 3 _) (.inr (by intro e; simp [Value.ownBlock] at e; omega)))
      · iterate 5 (refine Below.setCell ?_ (by simp) _)
        exact Below.refl _ _
def RulesIs (w : World) (e : Ending) (w' : World) : Prop :=
  ∃ v win ag L, e = .returned (.agg #[.int .i64 win, .int .i64 1, .int .i64 0, v, .bool ag]) ∧ RulesGood win L ∧ w'.ownsRow w.heap.size 3 1 v L.length (L.map (Value.int .i64)) ∧ Below w.heap.size w w'
end Go.Proofs.YteciobkjfmddcaaGreatDoor
set_option linter.unusedVariables false
namespace Go.Proofs.YteciobkjfmddcaaGreatDoor
open Go.RowKit

theorem l01Pick_any (B : Nat) (a : Option Addr) (len cap : Nat) (g : Nat → Nat) (v : Value) (n : Nat) (gl : Nat → Int) (w : World) (hc : Cur B a len cap g w) (h0 : 0 < n) (hn : n ≤ 256) (hv : IntRow w v n gl) (hB : v.ownBlock ≠ some B) :
    Calls Tryz.prog 32 #[.pointer (some ⟨B, 0, none⟩), v] w fun e w' => (∃ x : Nat, x < n ∧ e = .returned (.int .i64 (gl x))) ∧ Cur B a len cap g w' ∧ w.grownBy w' (some B) := by
  rcases hv with ⟨_, _, _, h⟩ | ⟨b, off, c, rfl, _, hn2, hcell, hcap⟩
  · omega
  have C := Lib.hid (l01Below_small B a len cap g n w hc h0 hn)
  have HC := Lib.hid hcell
  have hbB : some b ≠ some B := hB
  clear hc hcell hB
  go_enter Tryz.func32, Tryz.ntmps32
  go_wp2_with fail
  refine C.out.mono ?_
  rintro e w1 ⟨x, hx, rfl, c1, g1⟩
  have c0 := g1.cell (HC.out x hx) hbB
  have C1 := Lib.hid c1
  have G1 := Lib.hid g1
  clear c1 g1
  generalize hz : gl x = z at *
  have Hz := Lib.hid hz
  clear hz
  go_wp2
  go_ret
  exact ⟨⟨x, hx, by rw [Hz.out]; rfl⟩, C1.out, G1.out⟩

def gcells (L : List GameD) : List Value := L.flatMap GameD.cells
theorem gcells_push (L : List GameD) (x : GameD) : gcells (L ++ [x]) = gcells L ++ x.cells := by simp [gcells]
def SeaS (B : Nat) (a : Option Addr) (len cap : Nat) (g : Nat → Nat) (w0 : World) (out : Value) (L : List GameD) (w : World) : Prop :=
  Cur B a len cap g w ∧ w.ownsRow w0.heap.size 93 5 out L.length (gcells L) ∧ w0.grownBy w (some B) ∧ B < w0.heap.size
def SeaB (B : Nat) (a : Option Addr) (len cap : Nat) (g : Nat → Nat) (w0 : World) (out : Value) (L : List GameD) (D : Nat) (cs : Array Value) (w : World) : Prop :=
  SeaS B a len cap g w0 out L w ∧ w.heap[D]? = some (.cells cs 93 (0, 0)) ∧ w0.heap.size ≤ D ∧ out.ownBlock ≠ some D
section
variable {B : Nat} {a : Option Addr} {len cap : Nat} {g : Nat → Nat} {w0 : World} {out : Value} {L : List GameD} {D : Nat} {cs : Array Value} {w w' : World}
theorem SeaS.below (h : SeaS B a len cap g w0 out L w) (hb : Below w.heap.size w w') : SeaS B a len cap g w0 out L w' :=
  ⟨h.1.belowW hb (Nat.lt_of_lt_of_le h.2.2.2 h.2.2.1.size), owns_below h.2.1 hb (Nat.le_refl _), grown_to h.2.2.1 hb, h.2.2.2⟩
theorem SeaS.drawn (h : SeaS B a len cap g w0 out L w) (hc : Cur B a len cap g w') (hg : w.grownBy w' (some B)) : SeaS B a len cap g w0 out L w' := by
  refine ⟨hc, h.2.1.kept hg ?_, grown_trans h.2.2.1 hg, h.2.2.2⟩
  cases hv : out.ownBlock with
  | none => exact .inl rfl
  | some k => exact .inr fun e => by have := (h.2.1.lt k hv).1; have := h.2.2.2; simp at e; omega
theorem SeaB.drawn (h : SeaB B a len cap g w0 out L D cs w) (hc : Cur B a len cap g w') (hg : w.grownBy w' (some B)) : SeaB B a len cap g w0 out L D cs w' := by
  have hD : D < w.heap.size := (Array.getElem?_eq_some_iff.1 h.2.1).1
  exact ⟨h.1.drawn hc hg, (hg.block D hD (by intro e; have := h.2.2.1; have := h.1.2.2.2; simp at e; omega)).trans h.2.1, h.2.2⟩
theorem SeaB.below (h : SeaB B a len cap g w0 out L D cs w) (hb : Below w.heap.size w w') : SeaB B a len cap g w0 out L D cs w' := by
  have hD : D < w.heap.size := (Array.getElem?_eq_some_iff.1 h.2.1).1
  exact ⟨h.1.below hb, (hb.block D hD).trans h.2.1, h.2.2⟩
theorem SeaB.start (h : SeaS B a len cap g w0 out L w) (cs : Array Value) : SeaB B a len cap g w0 out L w.heap.size cs (w.alloc (.cells cs 93)) := by
  refine ⟨h.below ((Below.refl _ _).alloc (Nat.le_refl _) _), heap_alloc_new w _, h.2.2.1.size, fun e => ?_⟩
  have := (h.2.1.lt _ e).2
  omega
theorem SeaB.set (h : SeaB B a len cap g w0 out L D cs w) (j : Nat) (u : Value) : SeaB B a len cap g w0 out L D (cs.setIfInBounds j u) (w.setCell ⟨D, j, none⟩ u) := by
  obtain ⟨⟨h1, h2, h3, h4⟩, h5, h6, h7⟩ := h
  have hs := h3.size
  refine ⟨⟨h1.belowW (base := w0.heap.size) ((Below.refl _ _).setCell h6 _) h4, h2.kept (grown_set w D j u) (.inr h7), ⟨h3.os, h3.tape, h3.output, by simpa [World.setCell] using hs, fun k hk hne => ?_⟩, h4⟩, ?_, h6, h7⟩
  · rw [Below.heap_setCell _ _ _ _ (by show k ≠ D; omega)]; exact h3.block k hk hne
  · rw [heap_setCell_same w D j _ _ _ h5]
theorem SeaB.cur (h : SeaB B a len cap g w0 out L D cs w) : Cur B a len cap g w := h.1.1
theorem SeaB.cell (h : SeaB B a len cap g w0 out L D cs w) (j : Nat) : w.cell? ⟨D, j, none⟩ = cs[j]? := cell_of_row w D j _ _ (0, 0) h.2.1
theorem SeaB.free (h : SeaB B a len cap g w0 out L D cs w) (j : Nat) : w.frozen? ⟨D, j, none⟩ = false := frozen_of_row w D j _ _ h.2.1
theorem SeaB.push {x : GameD} {v : Value} (h : SeaB B a len cap g w0 out L D x.cells.toArray w) (ho : w'.ownsRow w0.heap.size 93 5 v (L.length + 1) (gcells L ++ x.cells)) (hg : w.grownBy w' out.ownBlock) :
    SeaS B a len cap g w0 v (L ++ [x]) w' := by
  obtain ⟨⟨h1, h2, h3, h4⟩, _⟩ := h
  have hs := h3.size
  have hb : Below w0.heap.size w w' := (Below.refl _ _).grown hg hs (fun k hk => (h2.lt k hk).1)
  refine ⟨h1.belowW hb h4, ?_, ⟨hb.os.trans h3.os, hb.tape.trans h3.tape, hb.output.trans h3.output, Nat.le_trans hs hb.size, fun k hk hne => (hb.block k hk).trans (h3.block k hk hne)⟩, h4⟩
  rw [gcells_push]
  simpa using ho
end
def SeaL (lo hi : Int) (L : List GameD) (m : Nat) : Prop :=
  (∀ t ∈ L, ((t.home < t.away ∧ 0 ≤ t.home ∧ (t.away < hi ∨ (t.away = hi ∧ t.home < lo))) ∨ (t.away < t.home ∧ 0 ≤ t.away ∧ (t.home < hi ∨ (t.home = hi ∧ t.away < lo)))) ∧
    (0 ≤ t.st ∧ t.st ≤ 4) ∧ ((t.st = 1 ∧ (0 ≤ t.hg ∧ t.hg ≤ 3) ∧ (0 ≤ t.ag ∧ t.ag ≤ 3)) ∨ (t.st ≠ 1 ∧ t.hg = 0 ∧ t.ag = 0))) ∧
  L.Pairwise (fun s t => ¬ (s.home = t.home ∧ s.away = t.away) ∧ ¬ (s.home = t.away ∧ s.away = t.home)) ∧ (L.filter fun t => t.st == 0).length = m ∧ (0 < lo ∨ 1 < hi → L ≠ [])
theorem SeaL.next {lo hi : Int} {L : List GameD} {m : Nat} {x : GameD} (h : SeaL lo hi L m) (h0 : 0 ≤ lo) (h1 : lo < hi) (hx : (x.home = lo ∧ x.away = hi) ∨ (x.home = hi ∧ x.away = lo)) (hst : 0 ≤ x.st ∧ x.st ≤ 4)
    (hg : (x.st = 1 ∧ (0 ≤ x.hg ∧ x.hg ≤ 3) ∧ (0 ≤ x.ag ∧ x.ag ≤ 3)) ∨ (x.st ≠ 1 ∧ x.hg = 0 ∧ x.ag = 0)) : SeaL (lo + 1) hi (L ++ [x]) (m + if x.st = 0 then 1 else 0) := by
  obtain ⟨ha, hp, hc, _⟩ := h
  refine ⟨fun t ht => ?_, ?_, ?_, fun _ => by simp⟩
  · rw [List.mem_append, List.mem_singleton] at ht
    rcases ht with ht | rfl
    · obtain ⟨k1, k2, k3⟩ := ha t ht
      exact ⟨by omega, k2, k3⟩
    · exact ⟨by omega, hst, hg⟩
  · rw [List.pairwise_append]
    refine ⟨hp, List.pairwise_singleton _ _, fun s hs t ht => ?_⟩
    rw [List.mem_singleton] at ht
    subst ht
    have := (ha s hs).1
    omega
  · rw [List.filter_append, List.length_append, hc]
    congr 1
    by_cases e : x.st = 0 <;> simp [e]
theorem SeaL.row {hi : Int} {L : List GameD} {m : Nat} (h : SeaL hi hi L m) : SeaL 0 (hi + 1) L m := by
  obtain ⟨ha, hp, hc, hq⟩ := h
  exact ⟨fun t ht => by obtain ⟨k1, k2, k3⟩ := ha t ht; exact ⟨by omega, k2, k3⟩, hp, hc, fun h => hq (.inl (by omega))⟩
def SeaMade (B : Nat) (a : Option Addr) (len cap : Nat) (g : Nat → Nat) (n opn : Nat) (w : World) (e : Ending) (w' : World) : Prop :=
  ∃ v L m, e = .returned v ∧ SeaL 0 n L m ∧ m ≤ opn ∧ L.length ≤ 8 * n ∧ w'.ownsRow w.heap.size 93 5 v L.length (gcells L) ∧ Cur B a len cap g w' ∧ w.grownBy w' (some B)
def pickG (i : Nat) : Int := match i with | 6 => 2 | 7 => 3 | 8 => 4 | _ => 1
theorem pickG_in (i : Nat) (h : i < 9) : 1 ≤ pickG i ∧ pickG i ≤ 4 := by
  have : i = 0 ∨ i = 1 ∨ i = 2 ∨ i = 3 ∨ i = 4 ∨ i = 5 ∨ i = 6 ∨ i = 7 ∨ i = 8 := by omega
  rcases this with rfl | rfl | rfl | rfl | rfl | rfl | rfl | rfl | rfl <;> decide
end Go.Proofs.YteciobkjfmddcaaGreatDoor
set_option linter.unusedVariables false
namespace Go.Proofs.YteciobkjfmddcaaGreatDoor
open Go.RowKit

theorem pick_row (w : World) : IntRow (w.alloc (.cells #[.int .i64 1, .int .i64 1, .int .i64 1, .int .i64 1, .int .i64 1, .int .i64 1, .int .i64 2, .int .i64 3, .int .i64 4] 3)) (.slice (some ⟨w.heap.size, 0, none⟩) 9 9) 9 pickG := by
  refine .inr ⟨w.heap.size, 0, 9, rfl, by omega, by omega, fun i hi => ?_, Nat.le_refl _⟩
  rw [Nat.zero_add, cell_of_row _ w.heap.size i _ _ (0, 0) (heap_alloc_new w _)]
  have : i = 0 ∨ i = 1 ∨ i = 2 ∨ i = 3 ∨ i = 4 ∨ i = 5 ∨ i = 6 ∨ i = 7 ∨ i = 8 := by omega
  rcases this with rfl | rfl | rfl | rfl | rfl | rfl | rfl | rfl | rfl <;> rfl
set_option maxRecDepth 100000 in
set_option maxHeartbeats 8000000 in
theorem l04Season_any (B : Nat) (a : Option Addr) (len cap : Nat) (g : Nat → Nat) (n opn : Nat) (w : World) (hc : Cur B a len cap g w) (hn : n ≤ 8) (h1 : 1 ≤ n) (ho : opn ≤ 1000) :
    Calls Tryz.prog 31 #[.pointer (some ⟨B, 0, none⟩), .int .i64 (n : Int), .int .i64 (opn : Int)] w (SeaMade B a len cap g n opn w) := by
  obtain ⟨i0, hi, hz0, hz1, hz2⟩ := info_parts Tryz.infoGame
  have hlB := hc.ltW
  have LO := Lib.hid (fun (m : Nat) w1 hc (h1 : 0 < m) (h2 : m ≤ 256) => l01Once_any B a len cap g m w1 hc h1 h2)
  have LB := Lib.hid (fun w1 hc => l01Below_small B a len cap g 4 w1 hc (by omega) (by omega))
  have LP := Lib.hid (fun v w1 hc hv hB => l01Pick_any B a len cap g v 9 pickG w1 hc (by omega) (by omega) hv hB)
  have S0 : SeaS B a len cap g w (.slice (some ⟨w.heap.size, 0, none⟩) 0 0) [] (w.alloc (.cells #[] 93)) :=
    ⟨hc.belowW ((Below.refl _ _).alloc (Nat.le_refl _) _) hlB, World.ownsRow_lit w #[] 0 (Nat.le_refl _) (by decide) rfl, World.grownBy_alloc _ _ _, hlB⟩
  have HS0 := Lib.hid S0
  clear hc S0
  go_enter Tryz.func31, Tryz.ntmps31
  go_wp2
  go_loopw [2, 7, 8] (fun ov out bv wr => ∃ (b o m : Nat) (L : List GameD), 1 ≤ b ∧ b ≤ n ∧ bv = .int .i64 b ∧ ov = .int .i64 o ∧ o + m = opn ∧ L.length ≤ 8 * b ∧ Hid (SeaL 0 b L m) ∧ Hid (SeaS B a len cap g w out L wr)) (fun _ _ bv _ => n - (RowKit.intOf bv).toNat)
  case atStart => exact ⟨1, opn, 0, [], by omega, by omega, rfl, rfl, by omega, by simp, ⟨fun t ht => by simp at ht, List.Pairwise.nil, rfl, fun h => absurd h (by omega)⟩, HS0.out⟩
  case round =>
    clear HS0
    obtain ⟨b, o, m, L, hb1, hbn, rfl, rfl, hom, hLl, hL, hS⟩ := hrel
    by_cases hlt : b < n
    · obtain ⟨wo, rfl⟩ : ∃ wo : World, wo = wr := ⟨_, rfl⟩
      go_wp2
      go_loopw [2, 7, 9] (fun ov out av wr => ∃ (x o m : Nat) (L : List GameD), x ≤ b ∧ av = .int .i64 x ∧ ov = .int .i64 o ∧ o + m = opn ∧ L.length ≤ 8 * b + x ∧ Hid (SeaL x b L m) ∧ Hid (SeaS B a len cap g w out L wr)) (fun _ _ av _ => b - (RowKit.intOf av).toNat)
      case atStart => exact ⟨0, o, m, L, by omega, rfl, rfl, hom, by omega, hL, hS⟩
      case round =>
        clear hL hS hLl hom
        obtain ⟨x, o, m, L, hxb, rfl, rfl, hom, hLl, hL, hS⟩ := hrel
        by_cases hxlt : x < b
        · have hB0 := Lib.hid (SeaB.start hS.out #[.int .i64 x, .int .i64 b, .int .i64 0, .int .i64 0, .int .i64 0])
          have hSz := hS.out.2.2.1.size
          have hL28 : L.length ≤ 72 := by omega
          go_wp2_with fail
          refine (LO.out 2 _ hB0.out.cur (by omega) (by omega)).mono ?_
          rintro e w2 ⟨⟨r, rfl⟩, c2, g2⟩
          have hB2 := Lib.hid (hB0.out.drawn c2 g2)
          have hDl : wr.heap.size < w2.heap.size := by have := (Array.getElem?_eq_some_iff.1 hB2.out.2.1).1; exact this
          generalize hD : wr.heap.size = D at *
          clear hD c2 g2 hB0 hS hSz
          go_upto_if 26 with fail
          go_cut [] (fun wx => ∃ hm aw : Int, Hid (SeaB B a len cap g w u7 L D #[.int .i64 hm, .int .i64 aw, .int .i64 0, .int .i64 0, .int .i64 0] wx) ∧ Hid ((hm = x ∧ aw = b) ∨ (hm = b ∧ aw = x)))
          case first =>
            cases r with
            | false =>
              go_wp2_with fail
              go_meet
              case rel => exact ⟨x, b, hB2, .inl ⟨rfl, rfl⟩⟩
            | true =>
              have k0 := hB2.out.cell 0
              have k1 := hB2.out.cell 1
              have k2 := hB2.out.cell 2
              have k3 := hB2.out.cell 3
              have k4 := hB2.out.cell 4
              have f0 := hB2.out.free 0
              have f1 := hB2.out.free 1
              have f2 := hB2.out.free 2
              have f3 := hB2.out.free 3
              have f4 := hB2.out.free 4
              have hB3 := Lib.hid (((((hB2.out.set 0 (.int .i64 b)).set 1 (.int .i64 x)).set 2 (.int .i64 0)).set 3 (.int .i64 0)).set 4 (.int .i64 0))
              go_wp2_with fail
              go_meet
              case rel => exact ⟨b, x, hB3, .inr ⟨rfl, rfl⟩⟩
          case rest =>
            obtain ⟨hm, aw, hB3, hpair⟩ := hcut
            clear hB2
            go_upto_region 11 with fail
            go_cut [35] (fun s35 wx => ∃ q : Bool, s35 = .bool q ∧ (q = true → 0 < o) ∧ Hid (SeaB B a len cap g w u7 L D #[.int .i64 hm, .int .i64 aw, .int .i64 0, .int .i64 0, .int .i64 0] wx))
            case first =>
              by_cases ho0 : 0 < o
              · have g9 : decide (0 < (o : Int)) = true := decide_eq_true (by omega)
                have g9' : decide (0 < o) = true := decide_eq_true ho0
                go_wp2_with fail
                refine (LO.out 3 _ hB3.out.cur (by omega) (by omega)).mono ?_
                rintro e w4 ⟨⟨q, rfl⟩, c4, g4⟩
                have hB4 := Lib.hid (hB3.out.drawn c4 g4)
                clear c4 g4
                go_wp2_with fail
                go_meet
                case rel => exact ⟨q, rfl, fun _ => ho0, hB4⟩
              · have g9 : decide (0 < (o : Int)) = false := decide_eq_false (by omega)
                have g9' : decide (0 < o) = false := decide_eq_false ho0
                go_wp2_with fail
                go_meet
                case rel => exact ⟨false, rfl, (fun h => by cases h), hB3⟩
            case rest =>
              obtain ⟨q, rfl, hq, hB4⟩ := hcut
              clear hB3
              go_upto_if 35 with fail
              go_cut [2] (fun s2 wx => ∃ (o2 : Nat) (st : Int), s2 = .int .i64 o2 ∧ (0 ≤ st ∧ st ≤ 4) ∧ Hid (o2 + (m + if st = 0 then 1 else 0) = opn) ∧ Hid (SeaB B a len cap g w u7 L D #[.int .i64 hm, .int .i64 aw, .int .i64 0, .int .i64 0, .int .i64 st] wx))
              case first =>
                cases q with
                | true =>
                  have ho0 := hq rfl
                  go_wp2_with fail
                  go_meet
                  case rel => exact ⟨o - 1, 0, by go_num, by omega, by show _ = _; simp; omega, hB4⟩
                | false =>
                  have hbl : ∀ (w1 : World), Below w1.heap.size w1 (w1.alloc (.cells #[.int .i64 1, .int .i64 1, .int .i64 1, .int .i64 1, .int .i64 1, .int .i64 1, .int .i64 2, .int .i64 3, .int .i64 4] 3)) := fun w1 => (Below.refl _ _).alloc (Nat.le_refl _) _
                  have hlB4 := hB4.out.cur.ltW
                  go_wp2_with fail
                  refine (LP.out _ _ (hB4.out.cur.belowW (hbl _) hlB4) (pick_row _) (by simp [Value.ownBlock]; omega)).mono ?_
                  rintro e w5 ⟨⟨i, hi9, rfl⟩, c5, g5⟩
                  have hB5 := Lib.hid ((hB4.out.below (hbl _)).drawn c5 g5)
                  obtain ⟨p1, p4⟩ := pickG_in i hi9
                  generalize pickG i = st at *
                  have k4 := hB5.out.cell 4
                  have f4 := hB5.out.free 4
                  have hB6 := Lib.hid (hB5.out.set 4 (.int .i64 st))
                  have HOM := Lib.hid hom
                  have hst0 : ¬ st = 0 := by omega
                  clear c5 g5 hbl
                  go_wp2_with fail
                  go_meet
                  case rel => exact ⟨o, st, rfl, by omega, by show _ = _; rw [if_neg hst0]; exact HOM.out, hB6⟩
              case rest =>
                obtain ⟨o2, st, rfl, hst, hom2, hB6⟩ := hcut
                clear hB4 hq hom
                have k4 := hB6.out.cell 4
                go_upto_if 44 with fail
                go_cut [] (fun wx => ∃ hg ag : Int, Hid (SeaB B a len cap g w u7 L D (GameD.cells ⟨hm, aw, hg, ag, st⟩).toArray wx) ∧ Hid ((st = 1 ∧ (0 ≤ hg ∧ hg ≤ 3) ∧ (0 ≤ ag ∧ ag ≤ 3)) ∨ (st ≠ 1 ∧ hg = 0 ∧ ag = 0)))
                case first =>
                  by_cases h1s : st = 1
                  · have g1s : (st == 1) = true := by simpa using h1s
                    have H1S := Lib.hid h1s
                    clear h1s
                    go_wp2_with fail
                    refine (LB.out _ hB6.out.cur).mono ?_
                    rintro e w7 ⟨y1, hy1, rfl, c7, g7⟩
                    have hB7 := Lib.hid (hB6.out.drawn c7 g7)
                    have k2 := hB7.out.cell 2
                    have f2 := hB7.out.free 2
                    have hB8 := Lib.hid (hB7.out.set 2 (.int .i64 y1))
                    clear c7 g7 k4
                    go_wp2_with fail
                    generalize w7.setCell ⟨D, 2, none⟩ (.int .i64 y1) = w8 at *
                    refine (LB.out _ hB8.out.cur).mono ?_
                    rintro e w9 ⟨y2, hy2, rfl, c9, g9⟩
                    have hB9 := Lib.hid (hB8.out.drawn c9 g9)
                    have k3 := hB9.out.cell 3
                    have f3 := hB9.out.free 3
                    have hB10 := Lib.hid (hB9.out.set 3 (.int .i64 y2))
                    clear c9 g9 k2 f2
                    go_wp2_with fail
                    go_meet
                    case rel => exact ⟨y1, y2, hB10, .inl ⟨H1S.out, by omega, by omega⟩⟩
                  · have g1s : (st == 1) = false := beq_eq_false_iff_ne.2 h1s
                    have H1S := Lib.hid h1s
                    clear h1s
                    go_wp2_with fail
                    go_meet
                    case rel => exact ⟨0, 0, hB6, .inr ⟨H1S.out, rfl, rfl⟩⟩
                case rest =>
                  obtain ⟨hgv, agv, hB7, hgl⟩ := hcut
                  clear hB6 k4
                  have k0 : wc.cell? ⟨D, 0, none⟩ = some (.int .i64 hm) := hB7.out.cell 0
                  have k1 : wc.cell? ⟨D, 1, none⟩ = some (.int .i64 aw) := hB7.out.cell 1
                  have k2 : wc.cell? ⟨D, 2, none⟩ = some (.int .i64 hgv) := hB7.out.cell 2
                  have k3 : wc.cell? ⟨D, 3, none⟩ = some (.int .i64 agv) := hB7.out.cell 3
                  have k4 : wc.cell? ⟨D, 4, none⟩ = some (.int .i64 st) := hB7.out.cell 4
                  have O7 := Lib.hid hB7.out.1.2.1
                  have hs7 : w.heap.size ≤ wc.heap.size := hB7.out.1.2.2.1.size
                  have hL2 := Lib.hid (hL.out.next (x := ⟨hm, aw, hgv, agv, st⟩) (by omega) (by omega) hpair.out hst hgl.out)
                  clear hL hpair hgl
                  go_wp2_with (at_builtin; refine wpList_pushL rfl (.tmp 51) (.tmp 53) 27 rfl w.heap.size 93 Tryz.underlying27 hi hz0 hz1 hz2 rfl (by decide) (GameD.cells ⟨hm, aw, hgv, agv, st⟩) rfl (by intro u hu; simp [GameD.cells] at hu; rcases hu with rfl | rfl | rfl | rfl | rfl <;> rfl) rfl rfl O7.out (by unfold maxLen; omega) (by omega) hs7 ?_; intro gg cc5 w10 o10 g10 at10 lt10; have S10 := Lib.hid (hB7.out.push o10 g10))
                  go_roundw
                  case rel => exact ⟨x + 1, o2, _, _, by omega, by go_num, rfl, hom2.out, by simp; omega, hL2, S10⟩
                  case measure => simp [RowKit.intOf]; omega
        · obtain rfl : x = b := by omega
          have hL2 := Lib.hid hL.out.row
          clear hL
          go_wp2
          go_roundw
          case rel => exact ⟨x + 1, o, m, L, by omega, by omega, by go_num, rfl, hom, by omega, hL2, hS⟩
          case measure => simp [RowKit.intOf]; omega
    · obtain rfl : b = n := by omega
      go_wp2
      go_ret
      exact ⟨_, L, m, rfl, hL.out, by omega, by omega, hS.out.2.1, hS.out.1, hS.out.2.2.1⟩
end Go.Proofs.YteciobkjfmddcaaGreatDoor
set_option linter.unusedVariables false
namespace Go.Proofs.YteciobkjfmddcaaGreatDoor
open Go.Lib

theorem decDigits_step (u : Nat) (h : ¬ u < 10) : decDigits u = decDigits (u / 10) ++ [UInt8.ofNat (48 + u % 10)] := by rw [decDigits, dif_neg h]
theorem dig_toNat (d : Nat) (h : d < 10) : (UInt8.ofNat (48 + d)).toNat = 48 + d := by
  rw [UInt8.toNat_ofNat']; omega
theorem decDigits_dig (u : Nat) : ∀ b ∈ decDigits u, 48 ≤ b.toNat ∧ b.toNat ≤ 57 := by
  induction u using Nat.strongRecOn with
  | _ u ih =>
    intro b hb
    by_cases h : u < 10
    · rw [decDigits_one h] at hb
      simp only [List.mem_singleton] at hb
      rw [hb, dig_toNat u h]; omega
    · rw [decDigits_step u h] at hb
      simp only [List.mem_append, List.mem_singleton] at hb
      rcases hb with hb | hb
      · exact ih (u / 10) (by omega) b hb
      · rw [hb, dig_toNat (u % 10) (by omega)]; omega
def valL (l : List UInt8) : Nat := l.foldl (fun a b => a * 10 + (b.toNat - 48)) 0
theorem valL_nil : valL [] = 0 := rfl
theorem valL_snoc (l : List UInt8) (b : UInt8) : valL (l ++ [b]) = valL l * 10 + (b.toNat - 48) := by simp [valL]
theorem valL_decDigits (u : Nat) : valL (decDigits u) = u := by
  induction u using Nat.strongRecOn with
  | _ u ih =>
    by_cases h : u < 10
    · rw [decDigits_one h]
      show 0 * 10 + ((UInt8.ofNat (48 + u)).toNat - 48) = u
      rw [dig_toNat u h]; omega
    · rw [decDigits_step u h, valL_snoc, ih (u / 10) (by omega), dig_toNat (u % 10) (by omega)]; omega
theorem decDigits_ne (u : Nat) : decDigits u ≠ [] := by
  have h1 := decDigits_length u
  have h2 := nDigits_pos u
  intro h
  rw [h] at h1
  simp at h1; omega
theorem decDigits_cons (u : Nat) : ∃ b r, decDigits u = b :: r ∧ 48 ≤ b.toNat ∧ b.toNat ≤ 57 := by
  cases h : decDigits u with
  | nil => exact absurd h (decDigits_ne u)
  | cons b r => exact ⟨b, r, rfl, decDigits_dig u b (by rw [h]; exact List.mem_cons_self ..)⟩
theorem valL_take_le (l : List UInt8) : ∀ j k, j ≤ k → valL (l.take j) ≤ valL (l.take k) := by
  intro j k hjk
  induction k with
  | zero => obtain rfl : j = 0 := by omega
            exact Nat.le_refl _
  | succ k ih =>
    by_cases h : j = k + 1
    · rw [h]; exact Nat.le_refl _
    · refine Nat.le_trans (ih (by omega)) ?_
      by_cases hk : k < l.length
      · rw [List.take_succ_eq_append_getElem hk, valL_snoc]; omega
      · rw [List.take_of_length_le (by omega), List.take_of_length_le (by omega)]; exact Nat.le_refl _
theorem nDigits_le (u : Nat) (h : u ≤ 9223372036854775808) : nDigits u ≤ 19 := by
  by_cases h19 : nDigits u ≤ 19
  · exact h19
  · exfalso
    have key : ∀ k v : Nat, v < 10 ^ (k + 1) → nDigits v ≤ k + 1 := by
      intro k
      induction k with
      | zero => intro v hv; rw [nDigits_small (by simpa using hv)]; exact Nat.le_refl _
      | succ k ih =>
        intro v hv
        by_cases hs : v < 10
        · rw [nDigits_small hs]; omega
        · rw [nDigits_big hs]
          have := ih (v / 10) (by rw [Nat.pow_succ] at hv; omega)
          omega
    have := key 18 u (by have : (10 : Nat) ^ (18 + 1) = 10000000000000000000 := by decide
                         omega)
    omega

def isInt (n : Int) : Prop := -9223372036854775808 ≤ n ∧ n ≤ 9223372036854775807
theorem itoa_neg (n : Int) (h : n < 0) : itoa n = 45 :: decDigits n.natAbs := by simp [itoa, h]
theorem itoa_pos (n : Int) (h : ¬ n < 0) : itoa n = decDigits n.toNat := by simp [itoa, h]
theorem itoa_inj {a b : Int} (h : itoa a = itoa b) : a = b := by
  by_cases ha : a < 0
  · by_cases hb : b < 0
    · rw [itoa_neg a ha, itoa_neg b hb] at h
      have h1 := congrArg valL (List.cons.inj h).2
      rw [valL_decDigits, valL_decDigits] at h1
      omega
    · rw [itoa_neg a ha, itoa_pos b hb] at h
      obtain ⟨x, r, hx, h1, h2⟩ := decDigits_cons b.toNat
      rw [hx] at h
      have := congrArg UInt8.toNat (List.cons.inj h).1
      simp at this; omega
  · by_cases hb : b < 0
    · rw [itoa_pos a ha, itoa_neg b hb] at h
      obtain ⟨x, r, hx, h1, h2⟩ := decDigits_cons a.toNat
      rw [hx] at h
      have := congrArg UInt8.toNat (List.cons.inj h).1
      simp at this; omega
    · rw [itoa_pos a ha, itoa_pos b hb] at h
      have h1 := congrArg valL h
      rw [valL_decDigits, valL_decDigits] at h1
      omega
def parsed (l : List UInt8) (v : Int) (ok : Bool) : Prop := if ok = true then isInt v ∧ itoa v = l else v = 0 ∧ ∀ n, isInt n → itoa n ≠ l
theorem parsed_unique {l : List UInt8} {v v' : Int} {b b' : Bool} (h : parsed l v b) (h' : parsed l v' b') : v = v' ∧ b = b' := by
  unfold parsed at h h'
  cases b <;> cases b' <;> simp at h h'
  · exact ⟨by rw [h.1, h'.1], rfl⟩
  · exact absurd h'.2 (h.2 v' h'.1)
  · exact absurd h.2 (h'.2 v h.1)
  · exact ⟨itoa_inj (h.2.trans h'.2.symm), rfl⟩

theorem canon_pos {n : Int} {l : List UInt8} (hn : isInt n) (h : itoa n = l) (hl : ∀ r, l ≠ 45 :: r) : l ≠ [] ∧ (∀ b ∈ l, 48 ≤ b.toNat ∧ b.toNat ≤ 57) ∧ l.length ≤ 19 ∧ valL l ≤ 9223372036854775807 ∧ n = valL l := by
  have hp : ¬ n < 0 := fun hp => hl _ (by rw [← h, itoa_neg n hp])
  rw [itoa_pos n hp] at h
  subst h
  have h1 := decDigits_length n.toNat
  have h2 := nDigits_le n.toNat (by unfold isInt at hn; omega)
  refine ⟨decDigits_ne _, decDigits_dig _, by omega, ?_, ?_⟩
  · rw [valL_decDigits]; unfold isInt at hn; omega
  · rw [valL_decDigits]; omega
theorem canon_neg {n : Int} {r : List UInt8} (hn : isInt n) (h : itoa n = 45 :: r) : r ≠ [] ∧ (∀ b ∈ r, 48 ≤ b.toNat ∧ b.toNat ≤ 57) ∧ r.length ≤ 19 ∧ valL r ≤ 9223372036854775808 ∧ n = -(valL r : Int) := by
  have hp : n < 0 := by
    by_cases hp : n < 0
    · exact hp
    · rw [itoa_pos n hp] at h
      obtain ⟨x, r', hx, h1, h2⟩ := decDigits_cons n.toNat
      rw [hx] at h
      have := congrArg UInt8.toNat (List.cons.inj h).1
      simp at this; omega
  rw [itoa_neg n hp] at h
  have h := (List.cons.inj h).2
  subst h
  have h1 := decDigits_length n.natAbs
  have h2 := nDigits_le n.natAbs (by unfold isInt at hn; omega)
  refine ⟨decDigits_ne _, decDigits_dig _, by omega, ?_, ?_⟩
  · rw [valL_decDigits]; unfold isInt at hn; omega
  · rw [valL_decDigits]; omega
end Go.Proofs.YteciobkjfmddcaaGreatDoor
set_option linter.unusedVariables false
namespace Go.Proofs.YteciobkjfmddcaaGreatDoor
open Go.RowKit
open Go.Sort (grow)

theorem one_byte {P : Program} (w : World) (src dst e : TypeId) (hs : P.underlying src = some (.slice e)) (he : P.underlying e = some (.int .u8)) (hd : P.underlying dst = some .string) (v : Int) :
    (convert src dst (.slice (some ⟨w.heap.size, 0, none⟩) 1 1)).run P (w.alloc (.cells #[.int .u8 v] e)) = .ok (.string ⟨[UInt8.ofNat v.toNat].toArray⟩) (w.alloc (.cells #[.int .u8 v] e)) := by
  have h := run_convert_bytes_arg (P := P) (w.alloc (.cells #[.int .u8 v] e)) src e hs he w.heap.size 0 1 1 [v] rfl (fun i hi => by
    obtain rfl : i = 0 := by omega
    simp) dst hd
  rw [h]
  rfl
theorem one_byte_at {P : Program} (src dst e : TypeId) (hs : P.underlying src = some (.slice e)) (he : P.underlying e = some (.int .u8)) (hd : P.underlying dst = some .string) (v : Int) (B : Nat) (W : World)
    (hc : W.cell? ⟨B, 0, none⟩ = some (.int .u8 v)) :
    (convert src dst (.slice (some ⟨B, 0, none⟩) 1 1)).run P W = .ok (.string ⟨[UInt8.ofNat v.toNat].toArray⟩) W := by
  have h := run_convert_bytes_arg (P := P) W src e hs he B 0 1 1 [v] rfl (fun i hi => by
    obtain rfl : i = 0 := by omega
    simpa using hc) dst hd
  rw [h]
  rfl
theorem kept_cell1 {w w1 : World} {v : Value} {e : TypeId} (b : Below (w.drew.alloc (.cells #[v] e)).heap.size (w.drew.alloc (.cells #[v] e)) w1) : w1.cell? ⟨w.heap.size, 0, none⟩ = some v := by
  rw [b.cell (p := ⟨w.heap.size, 0, none⟩) (by simp)]
  exact World.cell?_alloc_mark w.drew #[v] e (0, 0) 0
theorem kept_cell2 {w w1 : World} {v : Value} {e : TypeId} (b : Below (w.alloc (.cells #[v] e)).drew.heap.size (w.alloc (.cells #[v] e)).drew w1) : w1.cell? ⟨w.heap.size, 0, none⟩ = some v := by
  rw [b.cell (p := ⟨w.heap.size, 0, none⟩) (by simp)]
  exact World.cell?_alloc_mark w #[v] e (0, 0) 0
theorem cats (x y : List UInt8) : (ByteArray.mk x.toArray ++ ByteArray.mk y.toArray) = ByteArray.mk (x ++ y).toArray := ByteArray.mk_append_mk x y

theorem of48 (x : Nat) : UInt8.ofNat (48 + x) = 48 + UInt8.ofNat x := by simp

set_option maxRecDepth 100000 in
theorem formatInt_nat (m : Nat) (w : World) (hm : m ≤ 9223372036854775807) :
    Calls Tryz.prog 58 #[.int .i64 (m : Int)] w fun e w' => e = .returned (.string ⟨(Lib.decDigits m).toArray⟩) ∧ Below w.heap.size w w' := by
  go_enter Tryz.func58, Tryz.ntmps58
  go_wp2_with fail
  go_loopw [0, 3] (fun nv sv wr => ∃ (j : Nat) (l : List UInt8), nv = .int .i64 (j : Int) ∧ sv = .string ⟨l.toArray⟩ ∧ 2 * l.length + j ≤ m ∧ Hid (Lib.decDigits j ++ l = Lib.decDigits m) ∧ Below w.heap.size w wr) (fun nv _ _ => (RowKit.intOf nv).toNat)
  case atStart => exact ⟨m, [], rfl, rfl, by simp, by simp [Hid], Below.refl _ _⟩
  case round =>
    obtain ⟨j, l, rfl, rfl, hl, hd, hb⟩ := hrel
    have hz : l.toArray.size ≤ 4611686018427387904 := by simp; omega
    by_cases h9 : 9 < j
    · have hcv := one_byte (P := Tryz.prog) wr 22 9 5 Tryz.underlying22 Tryz.underlying5 Tryz.underlying9 (48 + (j : Int) % 10)
      have Hd : Hid (Lib.decDigits (j / 10) ++ ((48 + UInt8.ofNat (j % 10)) :: l) = Lib.decDigits m) := by
        show _ = _; rw [← hd.out, decDigits_step j (by omega), of48]; simp
      go_wp2_with fail
      go_roundw
      case rel =>
        exact ⟨j / 10, (48 + UInt8.ofNat (j % 10)) :: l, by go_num, congrArg Value.string (cats [48 + UInt8.ofNat (j % 10)] l), by simp; omega, Hd.out, hb.alloc hb.size _⟩
      case measure => simp [RowKit.intOf]; omega
    · have hcv := one_byte (P := Tryz.prog) wr 22 9 5 Tryz.underlying22 Tryz.underlying5 Tryz.underlying9 (48 + (j : Int))
      have Hd : Hid (((48 + UInt8.ofNat j) :: l) = Lib.decDigits m) := by
        show _ = _; rw [← hd.out, Lib.decDigits_one (show j < 10 by omega), of48]; rfl
      go_wp2_with fail
      go_ret
      exact ⟨by rw [← Hd.out]; exact congrArg (fun x => Ending.returned (Value.string x)) (cats [48 + UInt8.ofNat j] l), hb.alloc hb.size _⟩

set_option maxRecDepth 100000 in
theorem formatInt_neg (m : Nat) : ∀ w : World, 1 ≤ m → m ≤ 9223372036854775808 →
    Calls Tryz.prog 58 #[.int .i64 (-(m : Int))] w fun e w' => e = .returned (.string ⟨(45 :: Lib.decDigits m).toArray⟩) ∧ Below w.heap.size w w' := by
  induction m using Nat.strongRecOn with
  | _ m ih =>
  intro w h1 hm
  by_cases h9 : m < 10
  · have hcv := one_byte (P := Tryz.prog) w 22 9 5 Tryz.underlying22 Tryz.underlying5 Tryz.underlying9 (48 + (m : Int))
    have g1 : (-((m : Int) / 10) == 0) = true := by
      have : -((m : Int) / 10) = 0 := by omega
      simp [this]
    have hd := Lib.hid (Lib.decDigits_one h9)
    go_enter Tryz.func58, Tryz.ntmps58
    go_wp2_with fail
    go_ret
    refine ⟨?_, (Below.refl _ _).alloc (Nat.le_refl _) _⟩
    rw [hd.out, of48]
    exact congrArg (fun x => Ending.returned (Value.string x)) (cats [45] [48 + UInt8.ofNat m])
  · have g1 : (-((m : Int) / 10) == 0) = false := by
      have : -((m : Int) / 10) ≠ 0 := by omega
      simp; omega
    have ih' : Hid (∀ w : World, Calls Tryz.prog 58 #[.int .i64 (-((m : Int) / 10))] w fun e w' => e = .returned (.string ⟨(45 :: Lib.decDigits (m / 10)).toArray⟩) ∧ Below w.heap.size w w') := fun w => by
      have := ih (m / 10) (by omega) w (by omega) (by omega)
      rwa [show (-(((m / 10 : Nat)) : Int)) = -((m : Int) / 10) by omega] at this
    have Hd : Hid (Lib.decDigits m = Lib.decDigits (m / 10) ++ [UInt8.ofNat (48 + m % 10)]) := decDigits_step m (by omega)
    have hlen : (Lib.decDigits (m / 10)).length ≤ 19 := by rw [Lib.decDigits_length]; exact nDigits_le _ (by omega)
    clear ih
    generalize Lib.decDigits (m / 10) = D at *
    have e1 : IntKind.i64.wrap (-((m : Int) / 10)) = -((m : Int) / 10) := IntWalk.i64_in _ (by omega)
    have e2 : (m : Int).tmod 10 = (m : Int) % 10 := Int.tmod_eq_emod_of_nonneg (by omega)
    have e3 : IntKind.i64.wrap (48 + (m : Int) % 10) = 48 + (m : Int) % 10 := IntWalk.i64_in _ (by omega)
    have e4 : IntKind.u8.wrap (48 + (m : Int) % 10) = 48 + (m : Int) % 10 := by
      simp [IntKind.wrap, IntKind.bits, IntKind.signed]; omega
    have hcv := fun B W hc => one_byte_at (P := Tryz.prog) 22 9 5 Tryz.underlying22 Tryz.underlying5 Tryz.underlying9 (48 + (m : Int) % 10) B W hc
    go_enter Tryz.func58, Tryz.ntmps58
    go_wp2_with fail
    go_region_with (go_at_call 58; refine (ih'.out _).mono ?_; rintro e w1 ⟨rfl, b1⟩; first | (have hc1 := kept_cell1 b1) | (have hc1 := kept_cell2 b1) | skip)
    all_goals
      go_wp2_with fail
      go_ret
      refine ⟨by rw [Hd.out, of48]; exact congrArg (fun x => Ending.returned (Value.string x)) (cats (45 :: D) [48 + UInt8.ofNat (m % 10)]), ?_⟩
      have hs := b1.size
      first
        | exact ((Below.refl _ _).drew.trans b1).alloc hs _
        | exact ((Below.refl _ w).drew.alloc (Nat.le_refl _) _).trans (b1.mono (by simp))
        | exact (((Below.refl _ w).alloc (Nat.le_refl _) _).drew).trans (b1.mono (by simp))

theorem formatInt_spec (n : Int) (w : World) (h : isInt n) :
    Calls Tryz.prog 58 #[.int .i64 n] w fun e w' => e = .returned (.string ⟨(Lib.itoa n).toArray⟩) ∧ Below w.heap.size w w' := by
  unfold isInt at h
  by_cases hp : n < 0
  · have := formatInt_neg n.natAbs w (by omega) (by omega)
    rw [show (-((n.natAbs : Nat) : Int)) = n by omega, ← itoa_neg n hp] at this
    exact this
  · have := formatInt_nat n.toNat w (by omega)
    rw [show ((n.toNat : Nat) : Int) = n by omega, ← itoa_pos n hp] at this
    exact this
theorem grow_below (w : World) (k : Nat) (os : Array Obj) : Below w.heap.size w (grow (w.drewN k) os) := by
  refine ⟨rfl, rfl, rfl, by simp [grow], fun i hi => ?_⟩
  show (w.heap ++ os)[i]? = w.heap[i]?
  rw [Array.getElem?_append_left hi]
def PowTab (w : World) : Prop := VarAt w 0 (Lib.pow10Tab.map fun z => Value.int .u64 z).toArray
theorem formatInt_impl (n : Int) (w : World) (h : isInt n) (htab : PowTab w) :
    Calls Tryz.prog 24 #[.int .i64 n] w fun e w' => e = .returned (.string ⟨(Lib.itoa n).toArray⟩) ∧ Below w.heap.size w w' := by
  have C : Hid (Calls Tryz.prog 56 #[.int .i64 n] w fun e w' => e = .returned (.string ⟨(Lib.itoa n).toArray⟩) ∧ Below w.heap.size w w') :=
    (Any.strconv_Itoa Tryz.laysM171 n h.1 h.2 w (tabIs_of_at (by kernel_rfl) htab)).mono fun e w' ⟨h1, k, os, h2⟩ => ⟨h1, h2 ▸ grow_below w k os⟩
  clear htab h
  go_enter Tryz.func24, Tryz.ntmps24
  go_wp2_with fail
  refine C.out.mono ?_
  rintro e w1 ⟨rfl, b1⟩
  go_wp2
  go_ret
  exact ⟨rfl, b1⟩
end Go.Proofs.YteciobkjfmddcaaGreatDoor
set_option linter.unusedVariables false
namespace Go.Proofs.YteciobkjfmddcaaGreatDoor
open Go.RowKit

theorem Cur.below {B : Nat} {a : Option Addr} {len cap : Nat} {g : Nat → Nat} {w w' : World} (h : Cur B a len cap g w) (hb : Below w.heap.size w w') : Cur B a len cap g w' := by
  obtain ⟨i, x, hh, hi⟩ := h.blk
  have hlt : B < w.heap.size := (Array.getElem?_eq_some_iff.1 hh).1
  refine ⟨⟨i, x, (hb.block B hlt).trans hh, hi⟩, h.row.below hb (Nat.le_refl _), h.low, h.small, h.fits⟩
theorem Cur.lt {B : Nat} {a : Option Addr} {len cap : Nat} {g : Nat → Nat} {w : World} (h : Cur B a len cap g w) : B < w.heap.size := by
  obtain ⟨i, x, hh, hi⟩ := h.blk
  exact (Array.getElem?_eq_some_iff.1 hh).1
theorem Cur.belowB {B base : Nat} {a : Option Addr} {len cap : Nat} {g : Nat → Nat} {w w' : World} (h : Cur B a len cap g w) (hb : Below base w w') (hB : B < base) : Cur B a len cap g w' := by
  obtain ⟨i, x, hh, hi⟩ := h.blk
  refine ⟨⟨i, x, (hb.block B hB).trans hh, hi⟩, fun h0 => ?_, h.low, h.small, h.fits⟩
  obtain ⟨b, off, h1, h2⟩ := h.row h0
  have := h.low h0 b off h1
  exact ⟨b, off, h1, fun i hi => (hb.cell (p := ⟨b, off + i, none⟩) (show b < base by omega)).trans (h2 i hi)⟩
def madeNm (i : Nat) : ByteArray := ⟨#[116]⟩ ++ ⟨(Lib.itoa (i : Int)).toArray⟩
def MadeF (n turn : Nat) (G : Nat → TeamD) (k : Nat) : Prop := ∀ i, i < k → (G i).nm = madeNm i ∧ (0 ≤ (G i).club ∧ (G i).club ≤ 3) ∧ (G i).seed = (((i + turn) % n : Nat) : Int) + 1
def FieldMade (B : Nat) (a : Option Addr) (len cap : Nat) (g : Nat → Nat) (n : Nat) (w : World) (e : Ending) (w' : World) : Prop :=
  ∃ v G turn xs, e = .returned v ∧ turn < n ∧ MadeF n turn G n ∧ w'.ownsRow w.heap.size 90 3 v n xs ∧
    (∀ t, t < n → xs[t * 3]? = some (.string (G t).nm) ∧ xs[t * 3 + 1]? = some (.int .i64 (G t).club) ∧ xs[t * 3 + 2]? = some (.int .i64 (G t).seed)) ∧ Cur B a len cap g w' ∧ w.grownBy w' (some B)
def FieldS (B : Nat) (a : Option Addr) (len cap : Nat) (g : Nat → Nat) (w0 : World) (u : Value) (j : Nat) (xs : List Value) (w : World) : Prop :=
  Cur B a len cap g w ∧ w.ownsRow w0.heap.size 90 3 u j xs ∧ w0.grownBy w (some B) ∧ B < w0.heap.size
section
variable {B : Nat} {a : Option Addr} {len cap : Nat} {g : Nat → Nat} {w0 : World} {u : Value} {j : Nat} {xs : List Value} {w w' : World}
theorem FieldS.owns (h : FieldS B a len cap g w0 u j xs w) : w.ownsRow w0.heap.size 90 3 u j xs := h.2.1
theorem FieldS.size (h : FieldS B a len cap g w0 u j xs w) : w0.heap.size ≤ w.heap.size := h.2.2.1.size
theorem FieldS.cur (h : FieldS B a len cap g w0 u j xs w) : Cur B a len cap g w := h.1
theorem FieldS.drew (h : FieldS B a len cap g w0 u j xs w) : FieldS B a len cap g w0 u j xs w.drew :=
  ⟨⟨h.1.blk, h.1.row, h.1.low, h.1.small, h.1.fits⟩, h.2.1, ⟨h.2.2.1.os, h.2.2.1.tape, h.2.2.1.output, h.2.2.1.size, h.2.2.1.block⟩, h.2.2.2⟩
theorem FieldS.below (hb : Below w.heap.size w w') (h : FieldS B a len cap g w0 u j xs w) : FieldS B a len cap g w0 u j xs w' :=
  ⟨h.1.below hb, owns_below h.2.1 hb (Nat.le_refl _), grown_trans h.2.2.1 (tgrown_any (below_grown hb (Nat.le_refl _)) (some B)), h.2.2.2⟩
theorem FieldS.alloc (o : Obj) (h : FieldS B a len cap g w0 u j xs w) : FieldS B a len cap g w0 u j xs (w.alloc o) := FieldS.below ((Below.refl _ _).alloc (Nat.le_refl _) _) h
theorem FieldS.drawn (hc : Cur B a len cap g w') (hg : w.grownBy w' (some B)) (h : FieldS B a len cap g w0 u j xs w) : FieldS B a len cap g w0 u j xs w' := by
  refine ⟨hc, h.2.1.kept hg ?_, grown_trans h.2.2.1 hg, h.2.2.2⟩
  cases h5 : u.ownBlock with
  | none => exact .inl rfl
  | some k5 => exact .inr (fun e => by
      have h1 := (h.2.1.lt k5 h5).1
      have h2 := h.2.2.2
      have : k5 = B := by simpa using e
      omega)
theorem FieldS.push {o : Obj} {v : Value} {ys : List Value} (hg : (w.alloc o).grownBy w' u.ownBlock) (ho : w'.ownsRow w0.heap.size 90 3 v (j + 1) ys) (h : FieldS B a len cap g w0 u j xs w) : FieldS B a len cap g w0 v (j + 1) ys w' := by
  have hrow : ∀ k, u.ownBlock = some k → w0.heap.size ≤ k := fun k hk => (h.2.1.lt k hk).1
  have hsz := h.2.2.1.size
  have hb : Below w0.heap.size w w' := (((Below.refl _ w).alloc hsz o)).grown hg (by simp; omega) hrow
  refine ⟨h.1.belowB hb h.2.2.2, ho, ⟨hb.os.trans h.2.2.1.os, hb.tape.trans h.2.2.1.tape, hb.output.trans h.2.2.1.output, Nat.le_trans hsz hb.size, fun k hk hne => ?_⟩, h.2.2.2⟩
  rw [hb.block k hk, h.2.2.1.block k hk hne]
end
set_option maxRecDepth 100000 in
set_option maxHeartbeats 3000000 in
theorem l02Field_any (B : Nat) (a : Option Addr) (len cap : Nat) (g : Nat → Nat) (n : Nat) (w : World) (hc : Cur B a len cap g w) (h0 : 0 < n) (hn : n ≤ 6) :
    Calls Tryz.prog 29 #[.pointer (some ⟨B, 0, none⟩), .int .i64 (n : Int)] w (FieldMade B a len cap g n w) := by
  obtain ⟨i0, hi, hz0, hz1, hz2⟩ := info_parts Tryz.infoTeam
  have hlB := hc.lt
  have HC := Lib.hid hc
  clear hc
  have L1 := Lib.hid (fun w1 hc (m : Nat) (h1 : 0 < m) (h2 : m ≤ 256) => l01Below_small B a len cap g m w1 hc h1 h2)
  go_enter Tryz.func29, Tryz.ntmps29
  go_wp2_with fail
  have o0 : (w.alloc (.cells #[] 90)).ownsRow w.heap.size 90 3 (.slice (some ⟨w.heap.size, 0, none⟩) 0 0) 0 [] := World.ownsRow_lit w #[] 0 (Nat.le_refl _) (by decide) rfl
  have c0 := HC.out.below ((Below.refl _ _).alloc (Nat.le_refl _) (.cells #[] 90))
  refine (L1.out _ c0 n h0 (by omega)).mono ?_
  rintro e w1 ⟨turn, hturn, rfl, c1, g1⟩
  have o1 := o0.kept g1 (.inr fun e => by have : w.heap.size = B := by simpa [Value.ownBlock] using e
                                          omega)
  have gw1 : w.grownBy w1 (some B) := grown_trans (World.grownBy_alloc w _ _) g1
  have FI := Lib.hid (fun (j : Nat) w (hj : j < 100) => formatInt_spec (j : Int) w (by unfold isInt; omega))
  clear o0 c0 g1
  go_wp2
  go_loopw [5, 7] (fun out i wr => ∃ (j : Nat) (xs : List Value) (G : Nat → TeamD), j ≤ n ∧ i = .int .i64 j ∧ Hid (MadeF n turn G j) ∧
      Hid (∀ t, t < j → xs[t * 3]? = some (.string (G t).nm) ∧ xs[t * 3 + 1]? = some (.int .i64 (G t).club) ∧ xs[t * 3 + 2]? = some (.int .i64 (G t).seed)) ∧ FieldS B a len cap g w out j xs wr)
    (fun _ i _ => n - (RowKit.intOf i).toNat)
  case atStart => exact ⟨0, [], fun _ => ⟨ByteArray.empty, 0, 0⟩, Nat.zero_le _, rfl, fun i hi => absurd hi (by omega), fun t ht => absurd ht (by omega), c1, o1, gw1, hlB⟩
  case round =>
    clear o1 c1 gw1
    obtain ⟨j, xs, G, hj, rfl, hG, hxs, hS⟩ := hrel
    by_cases hlt : j < n
    · have hmod : Int.tmod ((j : Int) + turn) n = (((j + turn) % n : Nat) : Int) := by
        rw [show ((j : Int) + turn) = ((j + turn : Nat) : Int) by omega]
        rfl
      have hml : (j + turn) % n < n := Nat.mod_lt _ h0
      have hnz : ((n : Int) == 0) = false := by simp; omega
      have hnz2 : (n == 0) = false := by simp; omega
      have hnz3 : ¬ n = 0 := by omega
      have hnz4 : ¬ (n : Int) = 0 := by omega
      have w1' : IntKind.i64.wrap ((j : Int) + turn) = (j : Int) + turn := by rw [IntKind.wrap_i64]; omega
      have w2' : IntKind.i64.wrap ((((j + turn) % n : Nat) : Int) + 1) = (((j + turn) % n : Nat) : Int) + 1 := by rw [IntKind.wrap_i64]; omega
      obtain ⟨Z, HZ, hZl, FZ⟩ : ∃ Z : List UInt8, Hid (Z = Lib.itoa (j : Int)) ∧ Z.length ≤ 19 ∧ Hid (∀ w, Calls Tryz.prog 58 #[.int .i64 (j : Int)] w fun e w' => e = .returned (.string ⟨Z.toArray⟩) ∧ Below w.heap.size w w') :=
        ⟨_, rfl, by rw [itoa_pos _ (by omega), Lib.decDigits_length]; exact nDigits_le _ (by omega), fun w => FI.out j w (by omega)⟩
      have hzz : Z.toArray.size ≤ 4611686018427387904 := by simp; omega
      have hzl2 : ¬ 9223372036854775807 < 1 + Z.length := by omega
      clear FI
      generalize hsd : (((j + turn) % n : Nat) : Int) = sd at *
      have HSD := Lib.hid hsd
      clear hsd
      have s0 := hS.drew
      clear hS
      go_wp2_with fail
      go_region_held3 (fun w' => True) (trivial)
        (first
          | (go_at_call 58; refine (FZ.out _).mono ?_; rintro e wa ⟨rfl, ba⟩; have sa := FieldS.below ba (by assumption))
          | (go_at_call 14; refine (L1.out _ (FieldS.cur (by assumption)) 4 (by omega) (by omega)).mono ?_; rintro e wb ⟨cl, hcl, rfl, cb, gb⟩; have sb := FieldS.drawn cb gb (by assumption))
          | (refine step_append_lies _ (by rfl) (.tmp 17) (.tmp 30) 23 (by rfl) w.heap.size 90 i0 (.agg #[.string ByteArray.empty, .int .i64 0, .int .i64 0]) 3 32 Tryz.underlying23 hi hz0 hz1 hz2 rfl (by decide) u5 j xs (by rfl) (FieldS.owns (FieldS.alloc _ (by assumption))) ⟨_, 0, none⟩ 1 1 [.string (⟨#[116]⟩ ++ ⟨Z.toArray⟩), .int .i64 cl, .int .i64 (sd + 1)] (by rfl) (by rfl) (World.news_of_block (cs := #[.string (⟨#[116]⟩ ++ ⟨Z.toArray⟩), .int .i64 cl, .int .i64 (sd + 1)]) (t := 90) (fr := (0, 0)) (heap_alloc_new _ _)) (by intro u hu; simp at hu; rcases hu with rfl | rfl | rfl <;> rfl) (by omega) (by unfold maxLen; omega) (by omega) (FieldS.size (FieldS.alloc _ (by assumption))) _ rfl ?_; intro gg cc wc oc gc hat hlt2))
      have HS := Lib.hid (FieldS.push gc oc sb)
      clear s0 sa sb cb gb gc oc hat hlt2 ba
      generalize hv : Value.slice (some ⟨gg, 0, none⟩) (j + 1) cc = vv at *
      clear hv
      go_wp2
      go_roundw
      case rel =>
        have hl := HS.out.2.1.1
        simp only [List.length_append, List.length_cons, List.length_nil] at hl
        refine ⟨j + 1, _, fun t => if t = j then ⟨⟨#[116]⟩ ++ ⟨Z.toArray⟩, cl, sd + 1⟩ else G t, by omega, by go_num, fun i hi => ?_, fun t ht => ?_, HS.out⟩
        · by_cases hij : i = j
          · subst hij
            simp only [if_true]
            exact ⟨by unfold madeNm; rw [← HZ.out], ⟨by omega, by omega⟩, by rw [HSD.out]⟩
          · simp only [hij, if_false]
            exact hG.out i (by omega)
        · by_cases hij : t = j
          · subst hij
            simp only [if_true]
            have e : xs.length = t * 3 := by omega
            refine ⟨?_, ?_, ?_⟩
            · rw [List.getElem?_append_right (by omega), show t * 3 - xs.length = 0 by omega]; rfl
            · rw [List.getElem?_append_right (by omega), show t * 3 + 1 - xs.length = 1 by omega]; rfl
            · rw [List.getElem?_append_right (by omega), show t * 3 + 2 - xs.length = 2 by omega]; rfl
          · simp only [hij, if_false]
            obtain ⟨h1, h2, h3⟩ := hxs.out t (by omega)
            exact ⟨by rw [List.getElem?_append_left (by omega)]; exact h1, by rw [List.getElem?_append_left (by omega)]; exact h2, by rw [List.getElem?_append_left (by omega)]; exact h3⟩
      case measure => simp [RowKit.intOf]; omega
    · obtain rfl : j = n := by omega
      clear FI L1
      go_wp2
      go_ret
      exact ⟨_, G, turn, xs, rfl, hturn, hG.out, hS.2.1, hxs.out, hS.1, hS.2.2.1⟩

def FieldIs (w : World) (n : Nat) (G : Nat → TeamD) (e : Ending) (w' : World) : Prop :=
  ∃ v, e = .returned v ∧ TeamRow w' v n G ∧ Below w.heap.size w w'
def FieldGood (n : Nat) (G : Nat → TeamD) : Prop := (2 ≤ n ∧ n ≤ 6) ∧ (∃ turn, turn < n ∧ MadeF n turn G n) ∧ ∀ i, n ≤ i → G i = ⟨ByteArray.empty, 0, 0⟩
end Go.Proofs.YteciobkjfmddcaaGreatDoor
