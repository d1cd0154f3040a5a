/-
  Packed: Apply, RulesImpl, OrdersImpl, Decisive, BookAt, GamesBase, GamesFuns.
-/
import Derived.Test.YtojkonhhaamodaaQ1
import Derived.Test.YtojkonhhaamodaaQ2
import Derived.Test.YtojkonhhaamodaaQ4
import Derived.Test.YtojkonhhaamodaaQ5
import Derived.Test.YtojkonhhaamodaaQ9
import Derived.Test.YtojkonhhaamodaaQ11
set_option linter.unusedVariables false
namespace Go.Proofs.Ytojkonhhaamodaa
open Go.RowKit

/-- the games after the first j notes of C -/
def applyN (g : Nat → GameD) (C : List NoteD) : Nat → Nat → GameD
  | 0 => g
  | j + 1 => fun i => if i = (getN' C j).game.toNat then (getN' C j).res else applyN g C j i
theorem ins_mem (L : List NoteD) (x y : NoteD) (h : y ∈ insN L x) : y ∈ L ∨ y = x := by
  unfold insN at h
  split at h
  · exact .inl h
  · rcases List.mem_append.1 h with h | h
    · exact .inl (List.mem_of_mem_take h)
    · rcases List.mem_cons.1 h with h | h
      · exact .inr h
      · exact .inl (List.mem_of_mem_drop h)
theorem canon_mem (g : Nat → NoteD) (y : NoteD) : ∀ n, y ∈ canonL g n → ∃ i, i < n ∧ g i = y := by
  intro n
  induction n with
  | zero => intro h; simp [canonL] at h
  | succ n ih =>
    intro h
    rcases ins_mem _ _ _ (show y ∈ insN (canonL g n) (g n) from h) with h | h
    · obtain ⟨i, hi, he⟩ := ih h; exact ⟨i, by omega, he⟩
    · exact ⟨n, by omega, h.symm⟩
theorem getN_mem (L : List NoteD) (j : Nat) (h : j < L.length) : getN' L j ∈ L := by
  unfold getN'
  rw [List.getD_eq_getElem?_getD, List.getElem?_eq_getElem h]
  exact List.getElem_mem h
theorem GameD.ones (x : GameD) : ∀ u ∈ x.cells, u.oneCell' = true := by
  intro u hu; simp [GameD.cells] at hu; rcases hu with rfl | rfl | rfl | rfl | rfl <;> rfl
set_option maxRecDepth 100000 in
set_option maxHeartbeats 1000000 in
theorem applyNotes_spec (n : Int) (v : Value) (m : Nat) (g : Nat → GameD) (v' : Value) (k : Nat) (ns : Nat → NoteD) (R : Bool) (w : World) (hR : R = true ↔ notesP n m g k ns) (hv : GameRow w v m g) (hv' : NoteRow w v' k ns) :
    Calls Try.prog 58 #[.int .i64 n, v, v'] w fun e w' => (R = false ∧ e = .returned (.tuple #[.slice none 0 0, .bool false]) ∧ Below w.heap.size w w') ∨
      (R = true ∧ ∃ vv xs, e = .returned (.tuple #[vv, .bool true]) ∧ w'.ownsRow w.heap.size 37 5 vv m xs ∧ RecCells 5 m xs (fun i => (applyN g (canonL ns k) (canonL ns k).length i).cells) ∧ Below w.heap.size w w') := by
  have C := Lib.hid (fun w1 h1 h2 => notesOk_spec n v m g v' k ns R w1 hR h1 h2)
  cases R with
  | false =>
    clear hR
    go_enter Try.func58, Try.ntmps58
    go_wp2_with fail
    refine (C.out _ hv hv').mono ?_
    rintro e w2 ⟨rfl, b2⟩
    clear hv hv'
    go_wp2
    go_ret2
    exact .inl ⟨trivial, rfl, b2⟩
  | true =>
  have hP := hR.1 rfl
  have hm60 := hP.1.1
  have hk80 := hP.2.1
  have HNP : Hid (∀ j, j < (canonL ns k).length → noteP n m g (getN' (canonL ns k) j)) := fun j hj => by
    obtain ⟨i, hi, he⟩ := canon_mem ns _ k (getN_mem _ j hj)
    rw [← he]; exact (hP.2.2 i hi).1
  have hCL := canon_len ns k
  obtain ⟨i0, hi, hz0, hz1, hz2⟩ := info_parts Try.infoGame
  have HG := Lib.hid hv
  have HN := Lib.hid hv'
  have CC := Lib.hid (fun w1 h1 => (canonNotes_spec v' k ns w1 h1 (by omega)).mono fun _ _ h => NotesL.made h (by omega))
  generalize hC0 : canonL ns k = C0 at *
  clear hC0 hR hv hv' hP
  go_enter Try.func58, Try.ntmps58
  go_wp2_with fail
  refine (C.out _ HG.out HN.out).mono ?_
  rintro e w2 ⟨rfl, b2⟩
  have z2 := b2.size
  have HG2 := Lib.hid (HG.out.below b2 (Nat.le_refl _))
  have HB2 := Lib.hid b2
  clear C b2
  go_wp2_with (at_builtin; refine wpList_cloneR rfl (.tmp 16) (.tmp 17) 27 rfl 37 Try.underlying27 hi hz0 hz1 hz2 rfl (by decide) (by simp [go_sem]) rfl HG2.out (fun i hi => rfl) (fun i hi => GameD.ones _) (by omega) (by omega) ?_; intro vv w3 o3 b3; have z3 := b3.size; have HB3 := Lib.hid (HB2.out.trans (b3.mono z2)); have HO3 := Lib.hid (owns_mono o3 z2); have HC3 := Lib.hid (flatR_cells 5 (fun i => (g i).cells) m (fun i hi => rfl)); have HN3 := Lib.hid (HN.out.below HB3.out (Nat.le_refl _)); generalize flatR (fun i => (g i).cells) m = xs0 at *; have hin3 := Lib.hid (InW.of_owns HO3.out); have z23 := HB3.out.size; clear b3 o3 HG2)
  refine (CC.out _ HN3.out).mono ?_
  rintro e w4 ⟨cv, rfl, hcv, ⟨xsC, hoC⟩, b4⟩
  have z4 := b4.size
  have HB4 := Lib.hid (HB3.out.trans (b4.mono z23))
  have HO4 := Lib.hid (owns_below HO3.out b4 (Nat.le_refl _))
  have HIC := Lib.hid (InW.of_owns hoC)
  have HCV := Lib.hid hcv
  obtain ⟨ca, cc, rfl, _, _⟩ := hcv.form
  clear hcv hoC HB3 HO3 HN3 CC b4
  generalize hE : w3.heap.size = E at *
  clear hE z3
  go_wp2
  go_loopw [22] (fun i wr => ∃ (j : Nat) (xs : List Value), j ≤ C0.length ∧ i = .int .i64 j ∧ Hid (wr.ownsRow w.heap.size 37 5 vv m xs) ∧ Hid (RecCells 5 m xs fun i => (applyN g C0 j i).cells) ∧ Hid (NoteRow wr (.slice ca C0.length cc) C0.length (getN' C0)) ∧ Hid (Below w.heap.size w wr)) (fun i _ => C0.length - (intOf i).toNat)
  case atStart => exact ⟨0, xs0, Nat.zero_le _, rfl, HO4, HC3, HCV, HB4⟩
  case round =>
    clear HO4 HC3 HCV HB4
    obtain ⟨j, xs, hj, rfl, hown, hcl, hcv, hb⟩ := hrel
    by_cases hlt : j < C0.length
    · have hnp := HNP.out j hlt
      have HS : Hid (∀ i, applyN g C0 (j + 1) i = if i = (getN' C0 j).game.toNat then (getN' C0 j).res else applyN g C0 j i) := fun i => rfl
      obtain ⟨aa, cap, he, hcap0, hcf⟩ := hcv.out.form
      obtain ⟨b, off, rfl, hcap, hcc⟩ := hcf (by omega)
      simp only [Value.slice.injEq, true_and] at he
      obtain ⟨rfl, rfl⟩ := he
      have hq := hcc j hlt
      generalize getN' C0 j = x at *
      obtain ⟨sr, gm, rs⟩ := x
      obtain ⟨t, rfl⟩ : ∃ t : Nat, gm = (t : Int) := ⟨gm.toNat, by have h := hnp.2.1; simp only at h; omega⟩
      have htm : t < m := by have h := hnp.2.1; simp only at h; omega
      simp only [Int.toNat_natCast] at HS
      obtain ⟨gg, gcap, hvv⟩ : ∃ gg gcap, vv = .slice (some ⟨gg, 0, none⟩) m gcap := by
        obtain ⟨gg, gcap, h, _⟩ := hown.out.form (by omega)
        exact ⟨gg, gcap, h⟩
      subst hvv
      obtain ⟨c0, c1, c2, c3, c4, c5, c6⟩ := note_cells hq
      have hsz := hb.out.size
      have hg0 : Below wr.heap.size wr (wr.alloc (.cells #[.int .i64 sr, .int .i64 (t : Int), .int .i64 rs.home, .int .i64 rs.away, .int .i64 rs.hg, .int .i64 rs.ag, .int .i64 rs.st] 39)) := (Below.refl _ _).alloc (Nat.le_refl _) _
      have hown2 := owns_below hown.out hg0 (Nat.le_refl _)
      have hcv2 := Lib.hid (hcv.out.below hg0 (Nat.le_refl _))
      have hb2 := Lib.hid (hb.out.trans (hg0.mono hsz))
      have hgw : w.heap.size ≤ gg := (hown.out.lt gg rfl).1
      have hgs : gg < wr.heap.size := (hown.out.lt gg rfl).2
      have hgE : gg < E := (hin3.out gg rfl).2
      have HU := Lib.hid (cells_update (t := t) (cs := rs.cells) hcl.out hown.out.1 htm rfl (fun _ _ => Nat.le_refl _))
      obtain ⟨u0, e0⟩ := owns_cellR hown.out (t * 5) (by omega)
      have f0 := hown.out.frozenAt (t * 5)
      obtain ⟨u1, e1⟩ := owns_cellR hown.out (t * 5 + 1) (by omega)
      have f1 := hown.out.frozenAt (t * 5 + 1)
      obtain ⟨u2, e2⟩ := owns_cellR hown.out (t * 5 + 2) (by omega)
      have f2 := hown.out.frozenAt (t * 5 + 2)
      obtain ⟨u3, e3⟩ := owns_cellR hown.out (t * 5 + 3) (by omega)
      have f3 := hown.out.frozenAt (t * 5 + 3)
      obtain ⟨u4, e4⟩ := owns_cellR hown.out (t * 5 + 4) (by omega)
      have f4 := hown.out.frozenAt (t * 5 + 4)
      have hcongr : Hid (∀ i, i < m → (if i = t then rs.cells else (applyN g C0 j i).cells) = (applyN g C0 (j + 1) i).cells) := fun i _ => by rw [HS.out i]; by_cases h : i = t <;> simp [h]
      have HO2 := Lib.hid hown2
      clear hcc hcf hq hg0 hnp hcl hown2 hcv2 hb2 HO2
      go_wp2
      go_roundw
      case rel =>
        refine ⟨j + 1, setsFrom xs (t * 5) rs.cells, by omega, by go_num, ?_, Lib.hid (RecCells.congr HU.out hcongr.out), ?_, ?_⟩
        · have h5 := (((((hown.out.stored (t * 5) (Value.int .i64 rs.home)).1.stored (t * 5 + 1) (Value.int .i64 rs.away)).1.stored (t * 5 + 2) (Value.int .i64 rs.hg)).1.stored (t * 5 + 3) (Value.int .i64 rs.ag)).1.stored (t * 5 + 4) (Value.int .i64 rs.st)).1
          exact Lib.hid (h5.alloc _)
        · have h6 := NoteRow.touch hcv.out (Touch.setCell (lo := w.heap.size) (hi := E) (Touch.setCell (lo := w.heap.size) (hi := E) (Touch.setCell (lo := w.heap.size) (hi := E) (Touch.setCell (lo := w.heap.size) (hi := E) (Touch.setCell (lo := w.heap.size) (hi := E) (Touch.refl w.heap.size E wr) ⟨gg, t * 5, none⟩ (Value.int .i64 rs.home) hgw hgE) ⟨gg, t * 5 + 1, none⟩ (Value.int .i64 rs.away) hgw hgE) ⟨gg, t * 5 + 2, none⟩ (Value.int .i64 rs.hg) hgw hgE) ⟨gg, t * 5 + 3, none⟩ (Value.int .i64 rs.ag) hgw hgE) ⟨gg, t * 5 + 4, none⟩ (Value.int .i64 rs.st) hgw hgE) (fun _ => HIC.out) (Or.inr (Nat.le_refl _))
          exact Lib.hid (h6.below ((Below.refl _ _).alloc (Nat.le_refl _) _) (Nat.le_refl _))
        · have h7 := (Below.setCell (Below.setCell (Below.setCell (Below.setCell (Below.setCell hb.out (p := ⟨gg, t * 5, none⟩) hgw (Value.int .i64 rs.home)) (p := ⟨gg, t * 5 + 1, none⟩) hgw (Value.int .i64 rs.away)) (p := ⟨gg, t * 5 + 2, none⟩) hgw (Value.int .i64 rs.hg)) (p := ⟨gg, t * 5 + 3, none⟩) hgw (Value.int .i64 rs.ag)) (p := ⟨gg, t * 5 + 4, none⟩) hgw (Value.int .i64 rs.st))
          exact Lib.hid (h7.alloc (by simpa using h7.size) _)
      case measure => simp [intOf]; omega
    · obtain rfl : j = C0.length := by omega
      go_wp2
      go_ret2
      exact .inr ⟨trivial, _, xs, rfl, hown.out, hcl.out, hb.out⟩
end Go.Proofs.Ytojkonhhaamodaa
set_option linter.unusedVariables false
namespace Go.Proofs.Ytojkonhhaamodaa
open Go.RowKit

/-- block B of w is an array of K marks that says S -/
def SeenN (K : Nat) (w : World) (B : Nat) (S : Nat → Bool) : Prop := B < w.heap.size ∧ ∀ j, j < K → w.cell? ⟨B, j, none⟩ = some (.bool (S j)) ∧ w.frozen? ⟨B, j, none⟩ = false
theorem SeenN.made (K : Nat) (w : World) (cs : Array Value) (t : TypeId) (h : ∀ j, j < K → cs[j]? = some (.bool false)) : SeenN K (w.alloc (.cells cs t)) w.heap.size (fun _ => false) := by
  refine ⟨by simp, fun j hj => ⟨?_, ?_⟩⟩
  · rw [cell_of_row _ w.heap.size j _ t (0, 0) (heap_alloc_new w _)]
    exact h j hj
  · exact frozen_of_row _ w.heap.size j _ t (heap_alloc_new w _)
theorem SeenN.set {K : Nat} {w : World} {B : Nat} {S : Nat → Bool} (h : SeenN K w B S) (m : Nat) (hm : m < K) : SeenN K (w.setCell ⟨B, m, none⟩ (.bool true)) B (fun j => S j || decide (j = m)) := by
  refine ⟨by simpa [World.setCell] using h.1, fun j hj => ⟨?_, (World.frozen?_setCell _ _ _ _).trans (h.2 j hj).2⟩⟩
  by_cases hjm : j = m
  · subst hjm
    rw [World.cell?_setCell_same' _ _ _ (by rw [(h.2 j hj).1]; rfl)]
    simp
  · rw [World.cell?_setCell_other _ _ _ _ (by intro e; simp only [Addr.mk.injEq] at e; omega), (h.2 j hj).1]
    simp [hjm]
/-- so many different numbers from 1 to m are at most m -/
theorem pigeon (m : Nat) : ∀ (k : Nat) (g : Nat → Int), (∀ i, i < k → 1 ≤ g i ∧ g i ≤ m) → (∀ i j, i < j → j < k → g i ≠ g j) → k ≤ m := by
  induction m with
  | zero => intro k g h _; by_cases h0 : k = 0; · omega
            · have := h 0 (by omega); omega
  | succ m ih =>
    intro k g h hd
    by_cases hx : ∃ i, i < k ∧ g i = m + 1
    · obtain ⟨i0, hi0, he⟩ := hx
      have hk1 := ih (k - 1) (fun i => if i = i0 then g (k - 1) else g i) (fun i hi => by
          by_cases e : i = i0
          · simp only [e, if_true]
            have h1 := h (k - 1) (by omega)
            have h2 := hd i0 (k - 1) (by omega) (by omega)
            omega
          · simp only [e, if_false]
            have h1 := h i (by omega)
            have h2 : g i ≠ g i0 := by
              by_cases hlt : i < i0
              · exact hd i i0 hlt hi0
              · exact fun hh => hd i0 i (by omega) (by omega) hh.symm
            omega)
        (fun i j hij hj => by
          by_cases e : i = i0
          · by_cases e2 : j = i0
            · omega
            · simp only [e, e2, if_true, if_false]
              exact fun hh => hd j (k - 1) (by omega) (by omega) hh.symm
          · by_cases e2 : j = i0
            · simp only [e, e2, if_true, if_false]
              exact hd i (k - 1) (by omega) (by omega)
            · simp only [e, e2, if_false]
              exact hd i j hij (by omega))
      omega
    · have := ih k g (fun i hi => by
        have h1 := h i hi
        have h2 : g i ≠ m + 1 := fun he => hx ⟨i, hi, he⟩
        omega) hd
      omega
theorem pigeon8 {k : Nat} {g : Nat → Int} (h : ∀ i, i < k → (1 ≤ g i ∧ g i ≤ 8) ∧ ¬ hasP g (g i) i) : k ≤ 8 :=
  pigeon 8 k g (fun i hi => by have := (h i hi).1; omega) (fun i j hij hj he => (h j hj).2 ⟨i, hij, he⟩)
theorem knm_ne (m : Nat) (h1 : 1 ≤ m) (h8 : m ≤ 8) : (knm m).toList.isEmpty = false ∧ (knm m).toList ≠ [] := by
  have : m = 1 ∨ m = 2 ∨ m = 3 ∨ m = 4 ∨ m = 5 ∨ m = 6 ∨ m = 7 ∨ m = 8 := by omega
  rcases this with rfl | rfl | rfl | rfl | rfl | rfl | rfl | rfl <;> exact ⟨by decide +kernel, by decide +kernel⟩
end Go.Proofs.Ytojkonhhaamodaa
set_option linter.unusedVariables false
namespace Go.Proofs.Ytojkonhhaamodaa
open Go.RowKit

theorem IsRow.ints {w : World} {a : Option Addr} {len cap : Nat} {zs : List Int} (h : IsRow .i64 w a len cap zs) : IntRow w (.slice a len cap) len (getI zs) ∧ len ≤ 9223372036854775807 := by
  rcases h with ⟨rfl, rfl, rfl, rfl⟩ | ⟨x, rfl, hl, hm, hz, hc, _⟩
  · exact ⟨.inl ⟨_, _, rfl, rfl⟩, by omega⟩
  · unfold maxLen at hm
    refine ⟨?_, by omega⟩
    by_cases h0 : len = 0
    · subst h0; exact .inl ⟨_, _, rfl, rfl⟩
    · obtain ⟨b, off, spot⟩ := x
      have hspot : spot = none := by simpa [Addr.add] using World.cell?_spot (hc 0 (by omega))
      subst hspot
      refine .inr ⟨b, off, cap, rfl, by omega, by omega, fun i hi => ?_, hl⟩
      have hadd : (⟨b, off, none⟩ : Addr).add i = ⟨b, off + i, none⟩ := by unfold Addr.add; split <;> simp_all
      rw [← hadd]
      exact hc i (by omega)

/-- block B of w is an array of eight marks that says S -/
def Seen8 (w : World) (B : Nat) (S : Nat → Bool) : Prop := B < w.heap.size ∧ ∀ j, j < 8 → w.cell? ⟨B, j, none⟩ = some (.bool (S j)) ∧ w.frozen? ⟨B, j, none⟩ = false
theorem Seen8.made (w : World) (t : TypeId) : Seen8 (w.alloc (.cells #[.bool false, .bool false, .bool false, .bool false, .bool false, .bool false, .bool false, .bool false] t)) w.heap.size (fun _ => false) := by
  refine ⟨by simp, fun j hj => ⟨?_, ?_⟩⟩
  · rw [cell_of_row _ w.heap.size j _ t (0, 0) (heap_alloc_new w _)]
    have : j = 0 ∨ j = 1 ∨ j = 2 ∨ j = 3 ∨ j = 4 ∨ j = 5 ∨ j = 6 ∨ j = 7 := by omega
    rcases this with rfl | rfl | rfl | rfl | rfl | rfl | rfl | rfl <;> rfl
  · exact frozen_of_row _ w.heap.size j _ t (heap_alloc_new w _)
theorem Seen8.set {w : World} {B : Nat} {S : Nat → Bool} (h : Seen8 w B S) (m : Nat) (hm : m < 8) : Seen8 (w.setCell ⟨B, m, none⟩ (.bool true)) B (fun j => S j || decide (j = m)) := by
  refine ⟨by simpa [World.setCell] using h.1, fun j hj => ⟨?_, (World.frozen?_setCell _ _ _ _).trans (h.2 j hj).2⟩⟩
  by_cases hjm : j = m
  · subst hjm
    rw [World.cell?_setCell_same' _ _ _ (by rw [(h.2 j hj).1]; rfl)]
    simp
  · rw [World.cell?_setCell_other _ _ _ _ (by intro e; simp only [Addr.mk.injEq] at e; omega), (h.2 j hj).1]
    simp [hjm]
end Go.Proofs.Ytojkonhhaamodaa
set_option linter.unusedVariables false
namespace Go.Proofs.Ytojkonhhaamodaa
open Go.RowKit

theorem placeI_pos (g : Nat → Int) (x : Int) (r : Nat) : ∀ k, 0 ≤ placeI g x r k ↔ ∃ j, k ≤ j ∧ j < k + r ∧ g j = x := by
  induction r with
  | zero => intro k; unfold placeI; constructor
            · intro h; omega
            · rintro ⟨j, h1, h2, _⟩; omega
  | succ r ih =>
    intro k
    unfold placeI
    by_cases h : g k = x
    · rw [if_pos h]
      exact ⟨fun _ => ⟨k, Nat.le_refl _, by omega, h⟩, fun _ => by omega⟩
    · rw [if_neg h, ih (k + 1)]
      constructor
      · rintro ⟨j, h1, h2, h3⟩; exact ⟨j, by omega, by omega, h3⟩
      · rintro ⟨j, h1, h2, h3⟩
        refine ⟨j, ?_, by omega, h3⟩
        rcases Nat.lt_or_ge k j with h4 | h4
        · omega
        · obtain rfl : j = k := by omega
          exact absurd h3 h
theorem placeI_has (g : Nat → Int) (x : Int) (n : Nat) : 0 ≤ placeI g x n 0 ↔ hasP g x n := by
  rw [placeI_pos]
  constructor
  · rintro ⟨j, _, h2, h3⟩; exact ⟨j, by omega, h3⟩
  · rintro ⟨j, h2, h3⟩; exact ⟨j, by omega, by omega, h3⟩
/-- five cells of a block that was made, later -/
theorem cells5 {w w2 : World} {t : TypeId} {a b c d f : Value} (h : Below (w.alloc (.cells #[a, b, c, d, f] t)).heap.size (w.alloc (.cells #[a, b, c, d, f] t)) w2) :
    w2.cell? ⟨w.heap.size, 0, none⟩ = some a ∧ w2.cell? ⟨w.heap.size, 1, none⟩ = some b ∧ w2.cell? ⟨w.heap.size, 2, none⟩ = some c ∧ w2.cell? ⟨w.heap.size, 3, none⟩ = some d ∧ w2.cell? ⟨w.heap.size, 4, none⟩ = some f := by
  have k : ∀ j, w2.cell? ⟨w.heap.size, j, none⟩ = #[a, b, c, d, f][j]? := fun j => by
    rw [h.cell (p := ⟨w.heap.size, j, none⟩) (by simp), cell_of_row _ w.heap.size j _ t (0, 0) (heap_alloc_new w _)]
  exact ⟨k 0, k 1, k 2, k 3, k 4⟩
theorem cells5_below {w w2 : World} {B : Nat} {a b c d f : Value} (k : w.cell? ⟨B, 0, none⟩ = some a ∧ w.cell? ⟨B, 1, none⟩ = some b ∧ w.cell? ⟨B, 2, none⟩ = some c ∧ w.cell? ⟨B, 3, none⟩ = some d ∧ w.cell? ⟨B, 4, none⟩ = some f) (h : Below w.heap.size w w2) :
    w2.cell? ⟨B, 0, none⟩ = some a ∧ w2.cell? ⟨B, 1, none⟩ = some b ∧ w2.cell? ⟨B, 2, none⟩ = some c ∧ w2.cell? ⟨B, 3, none⟩ = some d ∧ w2.cell? ⟨B, 4, none⟩ = some f := by
  have hb : B < w.heap.size := World.block_lt_of_cell? w _ k.1
  exact ⟨(h.cell (p := ⟨B, 0, none⟩) hb).trans k.1, (h.cell (p := ⟨B, 1, none⟩) hb).trans k.2.1, (h.cell (p := ⟨B, 2, none⟩) hb).trans k.2.2.1, (h.cell (p := ⟨B, 3, none⟩) hb).trans k.2.2.2.1, (h.cell (p := ⟨B, 4, none⟩) hb).trans k.2.2.2.2⟩
def decisiveP (win draw loss : Int) (n : Nat) (g : Nat → Int) : Prop := rulesP win draw loss n g ∧ hasP g 8 n
theorem isDecisive_spec (win draw loss : Int) (ag R : Bool) (v : Value) (n : Nat) (g : Nat → Int) (w : World) (hR : R = true ↔ decisiveP win draw loss n g) (h : IntRow w v n g) :
    Calls Try.prog 44 #[.agg #[.int .i64 win, .int .i64 draw, .int .i64 loss, v, .bool ag]] w fun e w' => e = .returned (.bool R) ∧ Below w.heap.size w w' := by
  by_cases hp : rulesP win draw loss n g
  · have C1 := Lib.hid (fun w1 h1 => rulesOk_spec win draw loss ag true v n g w1 ⟨fun _ => hp, fun _ => rfl⟩ h1)
    have hR' : R = true ↔ hasP g 8 n := by rw [hR]; exact ⟨fun h => h.2, fun h => ⟨hp, h⟩⟩
    have C2 : Hid (∀ w1, IntRow w1 v n g → Calls Try.prog 54 #[v, .int .i64 8] w1 fun e w' => e = .returned (.bool R) ∧ w1 = w') := by
      intro w1 h1
      cases R with
      | true => exact l02Has_yes v n g 8 w1 h1 (hR'.1 rfl)
      | false => exact l02Has_no v n g 8 w1 h1 fun hh => by simpa using hR'.2 hh
    have HW := Lib.hid h
    clear hR hR' h hp
    go_enter Try.func44, Try.ntmps44
    go_wp2_with fail
    refine (C1.out _ (HW.out.below ((Below.refl _ w).alloc (Nat.le_refl _) _) (Nat.le_refl _))).mono ?_
    rintro e w1 ⟨rfl, b1⟩
    obtain ⟨k0, k1, k2, k3, k4⟩ := cells5 b1
    replace b1 := ((Below.refl _ w).alloc (Nat.le_refl _) _).trans (b1.mono (by simp))
    have h1 := Lib.hid (HW.out.below b1 (Nat.le_refl _))
    go_wp2_with fail
    refine (C2.out _ h1.out).mono ?_
    rintro e w2 ⟨rfl, rfl⟩
    go_wp2
    go_ret
    exact ⟨rfl, b1⟩
  · have C1 := Lib.hid (fun w1 h1 => rulesOk_spec win draw loss ag false v n g w1 ⟨(fun h => by cases h), fun h => absurd h hp⟩ h1)
    have hf : R = false := by
      cases R with
      | false => rfl
      | true => exact absurd (hR.1 rfl).1 hp
    subst hf
    have HW := Lib.hid h
    clear hR h hp
    go_enter Try.func44, Try.ntmps44
    go_wp2_with fail
    refine (C1.out _ (HW.out.below ((Below.refl _ w).alloc (Nat.le_refl _) _) (Nat.le_refl _))).mono ?_
    rintro e w1 ⟨rfl, b1⟩
    replace b1 := ((Below.refl _ w).alloc (Nat.le_refl _) _).trans (b1.mono (by simp))
    go_wp2
    go_ret
    exact ⟨rfl, b1⟩
end Go.Proofs.Ytojkonhhaamodaa
set_option linter.unusedVariables false
namespace Go.Proofs.Ytojkonhhaamodaa
open Go.RowKit

theorem IntRow.rec {w : World} {v : Value} {n : Nat} {g : Nat → Int} (h : IntRow w v n g) : RecRow 1 w v n fun i => [.int .i64 (g i)] := by
  rcases h with ⟨a, c, rfl, rfl⟩ | ⟨b, off, c, rfl, h0, h1, hc, h2⟩
  · exact .inl ⟨_, _, rfl, rfl⟩
  · refine .inr ⟨b, off, c, rfl, h0, h1, fun i hi => ⟨World.block_lt_of_cell? w _ (hc i hi), fun j u hu => ?_⟩, h2⟩
    cases j with
    | zero =>
      simp only [List.getElem?_cons_zero, Option.some.injEq] at hu
      subst hu
      rw [Nat.mul_one, Nat.add_zero]
      exact hc i hi
    | succ j => simp at hu
theorem RecRow.ints {w : World} {v : Value} {n : Nat} {g : Nat → Int} (h : RecRow 1 w v n fun i => [.int .i64 (g i)]) : IntRow w v n g := by
  rcases h with ⟨a, c, rfl, rfl⟩ | ⟨b, off, c, rfl, h0, h1, hc, h2⟩
  · exact .inl ⟨_, _, rfl, rfl⟩
  · exact .inr ⟨b, off, c, rfl, h0, h1, fun i hi => by have := (hc i hi).2 0 _ rfl; simpa using this, h2⟩
theorem TeamRow.rec {w : World} {v : Value} {n : Nat} {g : Nat → TeamD} (h : TeamRow w v n g) : RecRow 3 w v n fun i => (g i).cells := by
  rcases h with ⟨a, c, rfl, rfl⟩ | ⟨b, off, c, rfl, h0, h1, hc, h2⟩
  · exact .inl ⟨_, _, rfl, rfl⟩
  · refine .inr ⟨b, off, c, rfl, h0, h1, fun i hi => ⟨World.block_lt_of_cell? w _ (hc i hi).1, fun j u hu => ?_⟩, h2⟩
    have hj : j < 3 := by have := (List.getElem?_eq_some_iff.1 hu).1; simpa [TeamD.cells] using this
    have : j = 0 ∨ j = 1 ∨ j = 2 := by omega
    rcases this with rfl | rfl | rfl <;> (simp [TeamD.cells] at hu; subst hu)
    · exact (hc i hi).1
    · exact (hc i hi).2.1
    · exact (hc i hi).2.2
theorem RecRow.teams {w : World} {v : Value} {n : Nat} {g : Nat → TeamD} (h : RecRow 3 w v n fun i => (g i).cells) : TeamRow w v n g := by
  rcases h with ⟨a, c, rfl, rfl⟩ | ⟨b, off, c, rfl, h0, h1, hc, h2⟩
  · exact .inl ⟨_, _, rfl, rfl⟩
  · exact .inr ⟨b, off, c, rfl, h0, h1, fun i hi => ⟨(hc i hi).2 0 _ rfl, (hc i hi).2 1 _ rfl, (hc i hi).2 2 _ rfl⟩, h2⟩
theorem owns_low {w : World} {base : Nat} {e : TypeId} {size n : Nat} {v : Value} {xs : List Value} (h : w.ownsRow base e size v n xs) {B : Nat} (j : Nat) (u : Value) (hB : B < base) : (w.setCell ⟨B, j, none⟩ u).ownsRow base e size v n xs :=
  ownsRow_setCell_other h (fun e => by have := (h.lt B e).1; omega) u
/-- the slices of a book in memory of the call's own -/
def BookMem (w : World) (base : Nat) (vf vl vg vfa vta : Value) (b : BookD) : Prop :=
  w.ownsRow base 100 3 vf b.nf (flatR (fun i => (b.f i).cells) b.nf) ∧ w.ownsRow base 3 1 vl b.nl (flatR (fun i => [.int .i64 (b.l i)]) b.nl) ∧ w.ownsRow base 37 5 vg b.m (flatR (fun i => (b.g i).cells) b.m) ∧
    w.ownsRow base 3 1 vfa b.nfa (flatR (fun i => [.int .i64 (b.fa i)]) b.nfa) ∧ w.ownsRow base 3 1 vta b.nta (flatR (fun i => [.int .i64 (b.ta i)]) b.nta)
def bookS (b : BookD) : Prop := b.nf ≤ 1048576 ∧ b.nl ≤ 1048576 ∧ b.m ≤ 1048576 ∧ b.nfa ≤ 1048576 ∧ b.nta ≤ 1048576
theorem row_flat {k : Nat} {w : World} {base : Nat} {e : TypeId} {v : Value} {n : Nat} {g : Nat → List Value} (h : w.ownsRow base e k v n (flatR g n)) (hn : n ≤ 1048576) (hg : ∀ i, (g i).length = k) : RecRow k w v n g :=
  RecRow.of_owns h (by omega) (flatR_cells k g n fun i _ => hg i) (fun i _ => by rw [hg i]; exact Nat.le_refl _)
theorem BookMem.row {w : World} {base : Nat} {vf vl vg vfa vta : Value} {b : BookD} (h : BookMem w base vf vl vg vfa vta b) (hs : bookS b) : BookRow w vf vl vg vfa vta b :=
  ⟨(row_flat h.1 hs.1 fun _ => rfl).teams, (row_flat h.2.1 hs.2.1 fun _ => rfl).ints, row_flat h.2.2.1 hs.2.2.1 fun _ => rfl, (row_flat h.2.2.2.1 hs.2.2.2.1 fun _ => rfl).ints, (row_flat h.2.2.2.2 hs.2.2.2.2 fun _ => rfl).ints⟩
theorem BookMem.touch {w w' : World} {base lo hi : Nat} {vf vl vg vfa vta : Value} {b : BookD} (h : BookMem w base vf vl vg vfa vta b) (t : Touch lo hi w w') (ho : hi ≤ base) : BookMem w' base vf vl vg vfa vta b :=
  ⟨owns_touch h.1 t (InW.of_owns h.1) (.inr ho), owns_touch h.2.1 t (InW.of_owns h.2.1) (.inr ho), owns_touch h.2.2.1 t (InW.of_owns h.2.2.1) (.inr ho), owns_touch h.2.2.2.1 t (InW.of_owns h.2.2.2.1) (.inr ho), owns_touch h.2.2.2.2 t (InW.of_owns h.2.2.2.2) (.inr ho)⟩
theorem BookMem.mono {w : World} {base base' : Nat} {vf vl vg vfa vta : Value} {b : BookD} (h : BookMem w base vf vl vg vfa vta b) (hb : base' ≤ base) : BookMem w base' vf vl vg vfa vta b :=
  ⟨owns_mono h.1 hb, owns_mono h.2.1 hb, owns_mono h.2.2.1 hb, owns_mono h.2.2.2.1 hb, owns_mono h.2.2.2.2 hb⟩
theorem BookMem.below {w w' : World} {base B : Nat} {vf vl vg vfa vta : Value} {b : BookD} (h : BookMem w base vf vl vg vfa vta b) (hb : Below B w w') (hB : w.heap.size ≤ B) : BookMem w' base vf vl vg vfa vta b :=
  ⟨owns_below h.1 hb hB, owns_below h.2.1 hb hB, owns_below h.2.2.1 hb hB, owns_below h.2.2.2.1 hb hB, owns_below h.2.2.2.2 hb hB⟩
theorem BookMem.form {w : World} {base : Nat} {vf vl vg vfa vta : Value} {b : BookD} (h : BookMem w base vf vl vg vfa vta b) : ∃ fa fc la lc ga gc qa qc ta tc, vf = .slice fa b.nf fc ∧ vl = .slice la b.nl lc ∧ vg = .slice ga b.m gc ∧ vfa = .slice qa b.nfa qc ∧ vta = .slice ta b.nta tc := by
  obtain ⟨fa, fc, h1⟩ := owns_form h.1
  obtain ⟨la, lc, h2⟩ := owns_form h.2.1
  obtain ⟨ga, gc, h3⟩ := owns_form h.2.2.1
  obtain ⟨qa, qc, h4⟩ := owns_form h.2.2.2.1
  obtain ⟨ta, tc, h5⟩ := owns_form h.2.2.2.2
  exact ⟨fa, fc, la, lc, ga, gc, qa, qc, ta, tc, h1, h2, h3, h4, h5⟩
/-- a copy of a book has been made -/
def BookMade (w : World) (b : BookD) (e : Ending) (w' : World) : Prop :=
  ∃ vf vl vg vfa vta, e = .returned (.agg #[vf, .int .i64 b.win, .int .i64 b.draw, .int .i64 b.loss, vl, .bool b.again, vg, vfa, vta]) ∧ BookMem w' w.heap.size vf vl vg vfa vta b ∧ Below w.heap.size w w'
set_option maxRecDepth 100000 in
set_option maxHeartbeats 2000000 in
theorem l16Copy_spec (vf vl vg vfa vta : Value) (b : BookD) (w : World) (h : BookRow w vf vl vg vfa vta b) (hs : bookS b) :
    Calls Try.prog 57 #[.agg #[vf, .int .i64 b.win, .int .i64 b.draw, .int .i64 b.loss, vl, .bool b.again, vg, vfa, vta]] w (BookMade w b) := by
  obtain ⟨i0, hi, hz0, hz1, hz2⟩ := info_parts Try.infoI
  obtain ⟨i1, ti, tz0, tz1, tz2⟩ := info_parts Try.infoTeam
  obtain ⟨i2, gi, gz0, gz1, gz2⟩ := info_parts Try.infoGame
  obtain ⟨fa, fc, la, lc, ga, gc, qa, qc, ta, tc, rfl, rfl, rfl, rfl, rfl⟩ := h.form
  obtain ⟨n1, n2, n3, n4, n5⟩ := hs
  have HR := Lib.hid h
  clear h
  have b0 := ((Below.refl w.heap.size w).alloc (Nat.le_refl _) (.cells #[.slice fa b.nf fc, .int .i64 b.win, .int .i64 b.draw, .int .i64 b.loss, .slice la b.nl lc, .bool b.again, .slice ga b.m gc, .slice qa b.nfa qc, .slice ta b.nta tc] 29)).alloc (by simp) (.cells #[.slice none 0 0, .int .i64 0, .int .i64 0, .int .i64 0, .slice none 0 0, .bool false, .slice none 0 0, .slice none 0 0, .slice none 0 0] 29)
  have es : (w.alloc (.cells #[.slice fa b.nf fc, .int .i64 b.win, .int .i64 b.draw, .int .i64 b.loss, .slice la b.nl lc, .bool b.again, .slice ga b.m gc, .slice qa b.nfa qc, .slice ta b.nta tc] 29)).heap.size = w.heap.size + 1 := by simp
  have es2 : ((w.alloc (.cells #[.slice fa b.nf fc, .int .i64 b.win, .int .i64 b.draw, .int .i64 b.loss, .slice la b.nl lc, .bool b.again, .slice ga b.m gc, .slice qa b.nfa qc, .slice ta b.nta tc] 29)).alloc (.cells #[.slice none 0 0, .int .i64 0, .int .i64 0, .int .i64 0, .slice none 0 0, .bool false, .slice none 0 0, .slice none 0 0, .slice none 0 0] 29)).heap.size = w.heap.size + 2 := by simp
  have BF0 := Lib.hid (BoxF.made (u := w) ((Below.refl _ _).alloc (Nat.le_refl _) (.cells #[.slice none 0 0, .int .i64 0, .int .i64 0, .int .i64 0, .slice none 0 0, .bool false, .slice none 0 0, .slice none 0 0, .slice none 0 0] 29)) (B := w.heap.size) rfl : BoxF ((w.alloc (.cells #[.slice fa b.nf fc, .int .i64 b.win, .int .i64 b.draw, .int .i64 b.loss, .slice la b.nl lc, .bool b.again, .slice ga b.m gc, .slice qa b.nfa qc, .slice ta b.nta tc] 29)).alloc (.cells #[.slice none 0 0, .int .i64 0, .int .i64 0, .int .i64 0, .slice none 0 0, .bool false, .slice none 0 0, .slice none 0 0, .slice none 0 0] 29)) w.heap.size [Value.slice fa b.nf fc, Value.int .i64 b.win, Value.int .i64 b.draw, Value.int .i64 b.loss, Value.slice la b.nl lc, Value.bool b.again, Value.slice ga b.m gc, Value.slice qa b.nfa qc, Value.slice ta b.nta tc])
  have ZF0 := Lib.hid (BoxF.made (u := w.alloc (.cells #[.slice fa b.nf fc, .int .i64 b.win, .int .i64 b.draw, .int .i64 b.loss, .slice la b.nl lc, .bool b.again, .slice ga b.m gc, .slice qa b.nfa qc, .slice ta b.nta tc] 29)) (Below.refl _ _) (B := w.heap.size + 1) es : BoxF ((w.alloc (.cells #[.slice fa b.nf fc, .int .i64 b.win, .int .i64 b.draw, .int .i64 b.loss, .slice la b.nl lc, .bool b.again, .slice ga b.m gc, .slice qa b.nfa qc, .slice ta b.nta tc] 29)).alloc (.cells #[.slice none 0 0, .int .i64 0, .int .i64 0, .int .i64 0, .slice none 0 0, .bool false, .slice none 0 0, .slice none 0 0, .slice none 0 0] 29)) (w.heap.size + 1) [.slice none 0 0, .int .i64 0, .int .i64 0, .int .i64 0, .slice none 0 0, .bool false, .slice none 0 0, .slice none 0 0, .slice none 0 0])
  have HB0 := Lib.hid b0
  have SZ0 := Lib.hid (Nat.le_of_eq es2.symm)
  clear b0 es es2
  have d0 := (BF0.out.2 0 _ rfl).1
  have d1 := (BF0.out.2 1 _ rfl).1
  have d2 := (BF0.out.2 2 _ rfl).1
  have d3 := (BF0.out.2 3 _ rfl).1
  have d4 := (BF0.out.2 4 _ rfl).1
  have d5 := (BF0.out.2 5 _ rfl).1
  have d6 := (BF0.out.2 6 _ rfl).1
  have d7 := (BF0.out.2 7 _ rfl).1
  have d8 := (BF0.out.2 8 _ rfl).1
  go_enter Try.func57, Try.ntmps57
  go_wp2_with (first | (at_builtin; refine wpList_cloneR rfl (.tmp 3) (.tmp 5) 23 rfl 100 Try.underlying23 ti tz0 tz1 tz2 rfl (by decide) (by simp [go_sem]) rfl (HR.out.1.rec.below HB0.out (Nat.le_refl _)) (fun i hi => rfl) (fun i hi u hu => by simp [TeamD.cells] at hu; rcases hu with rfl | rfl | rfl <;> rfl) (by omega) (by omega) ?_; intro v0 w0 o0 b0; obtain ⟨a0, c0, hf0⟩ := owns_form o0; subst hf0; have O0_0 := Lib.hid (owns_low (owns_mono (base' := w.heap.size + 2) o0 SZ0.out) 0 (.slice a0 b.nf c0) (B := w.heap.size) (by omega)); have B0 := Lib.hid (BF0.out.below b0); have BF1 := Lib.hid (B0.out.set 0 (.slice a0 b.nf c0) (by simp) : BoxF _ w.heap.size [Value.slice a0 b.nf c0, Value.int .i64 b.win, Value.int .i64 b.draw, Value.int .i64 b.loss, Value.slice la b.nl lc, Value.bool b.again, Value.slice ga b.m gc, Value.slice qa b.nfa qc, Value.slice ta b.nta tc]); have Z0 := Lib.hid (ZF0.out.below b0); have ZF1 := Lib.hid (Z0.out.other (D := w.heap.size) 0 (.slice a0 b.nf c0) (by omega)); have HB1 := Lib.hid ((HB0.out.trans (b0.mono (by have := SZ0.out; omega))).setCell (p := ⟨w.heap.size, 0, none⟩) (Nat.le_refl _) (.slice a0 b.nf c0)); have SZ1 : Hid (w.heap.size + 2 ≤ (w0.setCell ⟨w.heap.size, 0, none⟩ (.slice a0 b.nf c0)).heap.size) := (by have h7 := b0.size; have h8 := SZ0.out; show _ ≤ _; simp only [World.setCell] at h7 h8 ⊢; simp at h7 h8 ⊢; omega); clear d0 d1 d2 d3 d4 d5 d6 d7 d8 o0 b0 HB0 BF0 ZF0 SZ0; have d0 := (B0.out.2 0 _ rfl).1; have d1 := (B0.out.2 1 _ rfl).1; have d2 := (B0.out.2 2 _ rfl).1; have d3 := (B0.out.2 3 _ rfl).1; have d4 := (B0.out.2 4 _ rfl).1; have d5 := (B0.out.2 5 _ rfl).1; have d6 := (B0.out.2 6 _ rfl).1; have d7 := (B0.out.2 7 _ rfl).1; have d8 := (B0.out.2 8 _ rfl).1; have e0 := (B0.out.2 0 _ rfl).2; have y0 := B0.out.1; have z0 := Z0.out.1) | (at_builtin; refine wpList_cloneR rfl (.tmp 8) (.tmp 11) 24 rfl 3 Try.underlying24 hi hz0 hz1 hz2 rfl (by decide) (by simp [go_sem]) rfl (HR.out.2.1.rec.below HB1.out (Nat.le_refl _)) (fun i hi => rfl) (fun i hi u hu => by simp at hu; subst hu; rfl) (by omega) (by omega) ?_; intro v1 w1 o1 b1; obtain ⟨a1, c1, hf1⟩ := owns_form o1; subst hf1; have O1_1 := Lib.hid (owns_low (owns_mono (base' := w.heap.size + 2) o1 SZ1.out) 4 (.slice a1 b.nl c1) (B := w.heap.size) (by omega)); have O0_1 := Lib.hid (owns_low (owns_below O0_0.out b1 (Nat.le_refl _)) 4 (.slice a1 b.nl c1) (B := w.heap.size) (by omega)); have B1 := Lib.hid (BF1.out.below b1); have BF2 := Lib.hid (B1.out.set 4 (.slice a1 b.nl c1) (by simp) : BoxF _ w.heap.size [Value.slice a0 b.nf c0, Value.int .i64 b.win, Value.int .i64 b.draw, Value.int .i64 b.loss, Value.slice a1 b.nl c1, Value.bool b.again, Value.slice ga b.m gc, Value.slice qa b.nfa qc, Value.slice ta b.nta tc]); have Z1 := Lib.hid (ZF1.out.below b1); have ZF2 := Lib.hid (Z1.out.other (D := w.heap.size) 4 (.slice a1 b.nl c1) (by omega)); have HB2 := Lib.hid ((HB1.out.trans (b1.mono (by have := SZ1.out; omega))).setCell (p := ⟨w.heap.size, 4, none⟩) (Nat.le_refl _) (.slice a1 b.nl c1)); have SZ2 : Hid (w.heap.size + 2 ≤ (w1.setCell ⟨w.heap.size, 4, none⟩ (.slice a1 b.nl c1)).heap.size) := (by have h7 := b1.size; have h8 := SZ1.out; show _ ≤ _; simp only [World.setCell] at h7 h8 ⊢; simp at h7 h8 ⊢; omega); clear d0 d1 d2 d3 d4 d5 d6 d7 d8 o1 b1 HB1 BF1 ZF1 SZ1 O0_0; have d0 := (B1.out.2 0 _ rfl).1; have d1 := (B1.out.2 1 _ rfl).1; have d2 := (B1.out.2 2 _ rfl).1; have d3 := (B1.out.2 3 _ rfl).1; have d4 := (B1.out.2 4 _ rfl).1; have d5 := (B1.out.2 5 _ rfl).1; have d6 := (B1.out.2 6 _ rfl).1; have d7 := (B1.out.2 7 _ rfl).1; have d8 := (B1.out.2 8 _ rfl).1; have e4 := (B1.out.2 4 _ rfl).2; have y1 := B1.out.1; have z1 := Z1.out.1; clear e0 y0 z0) | (at_builtin; refine wpList_cloneR rfl (.tmp 15) (.tmp 17) 27 rfl 37 Try.underlying27 gi gz0 gz1 gz2 rfl (by decide) (by simp [go_sem]) rfl (HR.out.2.2.1.below HB2.out (Nat.le_refl _)) (fun i hi => rfl) (fun i hi => GameD.ones _) (by omega) (by omega) ?_; intro v2 w2 o2 b2; obtain ⟨a2, c2, hf2⟩ := owns_form o2; subst hf2; have O2_2 := Lib.hid (owns_low (owns_mono (base' := w.heap.size + 2) o2 SZ2.out) 6 (.slice a2 b.m c2) (B := w.heap.size) (by omega)); have O0_2 := Lib.hid (owns_low (owns_below O0_1.out b2 (Nat.le_refl _)) 6 (.slice a2 b.m c2) (B := w.heap.size) (by omega)); have O1_2 := Lib.hid (owns_low (owns_below O1_1.out b2 (Nat.le_refl _)) 6 (.slice a2 b.m c2) (B := w.heap.size) (by omega)); have B2 := Lib.hid (BF2.out.below b2); have BF3 := Lib.hid (B2.out.set 6 (.slice a2 b.m c2) (by simp) : BoxF _ w.heap.size [Value.slice a0 b.nf c0, Value.int .i64 b.win, Value.int .i64 b.draw, Value.int .i64 b.loss, Value.slice a1 b.nl c1, Value.bool b.again, Value.slice a2 b.m c2, Value.slice qa b.nfa qc, Value.slice ta b.nta tc]); have Z2 := Lib.hid (ZF2.out.below b2); have ZF3 := Lib.hid (Z2.out.other (D := w.heap.size) 6 (.slice a2 b.m c2) (by omega)); have HB3 := Lib.hid ((HB2.out.trans (b2.mono (by have := SZ2.out; omega))).setCell (p := ⟨w.heap.size, 6, none⟩) (Nat.le_refl _) (.slice a2 b.m c2)); have SZ3 : Hid (w.heap.size + 2 ≤ (w2.setCell ⟨w.heap.size, 6, none⟩ (.slice a2 b.m c2)).heap.size) := (by have h7 := b2.size; have h8 := SZ2.out; show _ ≤ _; simp only [World.setCell] at h7 h8 ⊢; simp at h7 h8 ⊢; omega); clear d0 d1 d2 d3 d4 d5 d6 d7 d8 o2 b2 HB2 BF2 ZF2 SZ2 O0_1 O1_1; have d0 := (B2.out.2 0 _ rfl).1; have d1 := (B2.out.2 1 _ rfl).1; have d2 := (B2.out.2 2 _ rfl).1; have d3 := (B2.out.2 3 _ rfl).1; have d4 := (B2.out.2 4 _ rfl).1; have d5 := (B2.out.2 5 _ rfl).1; have d6 := (B2.out.2 6 _ rfl).1; have d7 := (B2.out.2 7 _ rfl).1; have d8 := (B2.out.2 8 _ rfl).1; have e6 := (B2.out.2 6 _ rfl).2; have y2 := B2.out.1; have z2 := Z2.out.1; clear e4 y1 z1) | (at_builtin; refine wpList_cloneR rfl (.tmp 20) (.tmp 22) 24 rfl 3 Try.underlying24 hi hz0 hz1 hz2 rfl (by decide) (by simp [go_sem]) rfl (HR.out.2.2.2.1.rec.below HB3.out (Nat.le_refl _)) (fun i hi => rfl) (fun i hi u hu => by simp at hu; subst hu; rfl) (by omega) (by omega) ?_; intro v3 w3 o3 b3; obtain ⟨a3, c3, hf3⟩ := owns_form o3; subst hf3; have O3_3 := Lib.hid (owns_low (owns_mono (base' := w.heap.size + 2) o3 SZ3.out) 7 (.slice a3 b.nfa c3) (B := w.heap.size) (by omega)); have O0_3 := Lib.hid (owns_low (owns_below O0_2.out b3 (Nat.le_refl _)) 7 (.slice a3 b.nfa c3) (B := w.heap.size) (by omega)); have O1_3 := Lib.hid (owns_low (owns_below O1_2.out b3 (Nat.le_refl _)) 7 (.slice a3 b.nfa c3) (B := w.heap.size) (by omega)); have O2_3 := Lib.hid (owns_low (owns_below O2_2.out b3 (Nat.le_refl _)) 7 (.slice a3 b.nfa c3) (B := w.heap.size) (by omega)); have B3 := Lib.hid (BF3.out.below b3); have BF4 := Lib.hid (B3.out.set 7 (.slice a3 b.nfa c3) (by simp) : BoxF _ w.heap.size [Value.slice a0 b.nf c0, Value.int .i64 b.win, Value.int .i64 b.draw, Value.int .i64 b.loss, Value.slice a1 b.nl c1, Value.bool b.again, Value.slice a2 b.m c2, Value.slice a3 b.nfa c3, Value.slice ta b.nta tc]); have Z3 := Lib.hid (ZF3.out.below b3); have ZF4 := Lib.hid (Z3.out.other (D := w.heap.size) 7 (.slice a3 b.nfa c3) (by omega)); have HB4 := Lib.hid ((HB3.out.trans (b3.mono (by have := SZ3.out; omega))).setCell (p := ⟨w.heap.size, 7, none⟩) (Nat.le_refl _) (.slice a3 b.nfa c3)); have SZ4 : Hid (w.heap.size + 2 ≤ (w3.setCell ⟨w.heap.size, 7, none⟩ (.slice a3 b.nfa c3)).heap.size) := (by have h7 := b3.size; have h8 := SZ3.out; show _ ≤ _; simp only [World.setCell] at h7 h8 ⊢; simp at h7 h8 ⊢; omega); clear d0 d1 d2 d3 d4 d5 d6 d7 d8 o3 b3 HB3 BF3 ZF3 SZ3 O0_2 O1_2 O2_2; have d0 := (B3.out.2 0 _ rfl).1; have d1 := (B3.out.2 1 _ rfl).1; have d2 := (B3.out.2 2 _ rfl).1; have d3 := (B3.out.2 3 _ rfl).1; have d4 := (B3.out.2 4 _ rfl).1; have d5 := (B3.out.2 5 _ rfl).1; have d6 := (B3.out.2 6 _ rfl).1; have d7 := (B3.out.2 7 _ rfl).1; have d8 := (B3.out.2 8 _ rfl).1; have e7 := (B3.out.2 7 _ rfl).2; have y3 := B3.out.1; have z3 := Z3.out.1; clear e6 y2 z2) | (at_builtin; refine wpList_cloneR rfl (.tmp 25) (.tmp 27) 24 rfl 3 Try.underlying24 hi hz0 hz1 hz2 rfl (by decide) (by simp [go_sem]) rfl (HR.out.2.2.2.2.rec.below HB4.out (Nat.le_refl _)) (fun i hi => rfl) (fun i hi u hu => by simp at hu; subst hu; rfl) (by omega) (by omega) ?_; intro v4 w4 o4 b4; obtain ⟨a4, c4, hf4⟩ := owns_form o4; subst hf4; have O4_4 := Lib.hid (owns_low (owns_mono (base' := w.heap.size + 2) o4 SZ4.out) 8 (.slice a4 b.nta c4) (B := w.heap.size) (by omega)); have O0_4 := Lib.hid (owns_low (owns_below O0_3.out b4 (Nat.le_refl _)) 8 (.slice a4 b.nta c4) (B := w.heap.size) (by omega)); have O1_4 := Lib.hid (owns_low (owns_below O1_3.out b4 (Nat.le_refl _)) 8 (.slice a4 b.nta c4) (B := w.heap.size) (by omega)); have O2_4 := Lib.hid (owns_low (owns_below O2_3.out b4 (Nat.le_refl _)) 8 (.slice a4 b.nta c4) (B := w.heap.size) (by omega)); have O3_4 := Lib.hid (owns_low (owns_below O3_3.out b4 (Nat.le_refl _)) 8 (.slice a4 b.nta c4) (B := w.heap.size) (by omega)); have B4 := Lib.hid (BF4.out.below b4); have BF5 := Lib.hid (B4.out.set 8 (.slice a4 b.nta c4) (by simp) : BoxF _ w.heap.size [Value.slice a0 b.nf c0, Value.int .i64 b.win, Value.int .i64 b.draw, Value.int .i64 b.loss, Value.slice a1 b.nl c1, Value.bool b.again, Value.slice a2 b.m c2, Value.slice a3 b.nfa c3, Value.slice a4 b.nta c4]); have Z4 := Lib.hid (ZF4.out.below b4); have ZF5 := Lib.hid (Z4.out.other (D := w.heap.size) 8 (.slice a4 b.nta c4) (by omega)); have HB5 := Lib.hid ((HB4.out.trans (b4.mono (by have := SZ4.out; omega))).setCell (p := ⟨w.heap.size, 8, none⟩) (Nat.le_refl _) (.slice a4 b.nta c4)); have SZ5 : Hid (w.heap.size + 2 ≤ (w4.setCell ⟨w.heap.size, 8, none⟩ (.slice a4 b.nta c4)).heap.size) := (by have h7 := b4.size; have h8 := SZ4.out; show _ ≤ _; simp only [World.setCell] at h7 h8 ⊢; simp at h7 h8 ⊢; omega); clear d0 d1 d2 d3 d4 d5 d6 d7 d8 o4 b4 HB4 BF4 ZF4 SZ4 O0_3 O1_3 O2_3 O3_3; have d0 := (B4.out.2 0 _ rfl).1; have d1 := (B4.out.2 1 _ rfl).1; have d2 := (B4.out.2 2 _ rfl).1; have d3 := (B4.out.2 3 _ rfl).1; have d4 := (B4.out.2 4 _ rfl).1; have d5 := (B4.out.2 5 _ rfl).1; have d6 := (B4.out.2 6 _ rfl).1; have d7 := (B4.out.2 7 _ rfl).1; have d8 := (B4.out.2 8 _ rfl).1; have e8 := (B4.out.2 8 _ rfl).2; have y4 := B4.out.1; have z4 := Z4.out.1; clear e7 y3 z3; have q0 := (Z4.out.2 0 _ rfl).1; have r0 := (Z4.out.2 0 _ rfl).2; have q1 := (Z4.out.2 1 _ rfl).1; have r1 := (Z4.out.2 1 _ rfl).2; have q2 := (Z4.out.2 2 _ rfl).1; have r2 := (Z4.out.2 2 _ rfl).2; have q3 := (Z4.out.2 3 _ rfl).1; have r3 := (Z4.out.2 3 _ rfl).2; have q4 := (Z4.out.2 4 _ rfl).1; have r4 := (Z4.out.2 4 _ rfl).2; have q5 := (Z4.out.2 5 _ rfl).1; have r5 := (Z4.out.2 5 _ rfl).2; have q6 := (Z4.out.2 6 _ rfl).1; have r6 := (Z4.out.2 6 _ rfl).2; have q7 := (Z4.out.2 7 _ rfl).1; have r7 := (Z4.out.2 7 _ rfl).2; have q8 := (Z4.out.2 8 _ rfl).1; have r8 := (Z4.out.2 8 _ rfl).2))
  have hlt : w.heap.size < w4.heap.size := Nat.lt_of_succ_lt (Nat.lt_of_succ_le (by have := Z4.out.1; omega))
  refine bodyPost_ret (v := .agg #[.slice a0 b.nf c0, .int .i64 b.win, .int .i64 b.draw, .int .i64 b.loss, .slice a1 b.nl c1, .bool b.again, .slice a2 b.m c2, .slice a3 b.nfa c3, .slice a4 b.nta c4]) (by simp [results, Try.results57, go_sem, q0, q1, q2, q3, q4, q5, q6, q7, q8]) rfl ?_
  have M : BookMem _ (w.heap.size + 2) (.slice a0 b.nf c0) (.slice a1 b.nl c1) (.slice a2 b.m c2) (.slice a3 b.nfa c3) (.slice a4 b.nta c4) b := ⟨O0_4.out, O1_4.out, O2_4.out, O3_4.out, O4_4.out⟩
  refine ⟨_, _, _, _, _, rfl, (M.touch (lo := w.heap.size) ?_ (Nat.le_refl _)).mono (by omega), HB5.out.trans (Touch.below (lo := w.heap.size) (hi := w.heap.size + 2) ?_ (Nat.le_refl _) (by have := SZ5.out; omega))⟩
  all_goals
    iterate 9 (refine Touch.setCell ?_ _ _ (by simp) (by simp))
    exact Touch.refl _ _ _
end Go.Proofs.Ytojkonhhaamodaa
set_option linter.unusedVariables false
namespace Go.Proofs.Ytojkonhhaamodaa
open Go.RowKit

theorem bool_of {R : Bool} {p : Prop} (h : R = true ↔ p) (hp : p) : R = true := h.2 hp
theorem bool_not {R : Bool} {p : Prop} (h : R = true ↔ p) (hp : ¬ p) : R = false := by
  cases R with
  | false => rfl
  | true => exact absurd (h.1 rfl) hp

theorem areOpp_impl (n a b : Int) (R : Bool) (w : World) (hR : R = true ↔ (0 ≤ a ∧ a < n ∧ 0 ≤ b ∧ b < n ∧ a ≠ b)) :
    Calls Try.prog 47 #[.int .i64 n, .int .i64 a, .int .i64 b] w fun e w' => e = .returned (.bool R) ∧ w = w' := by
  have HN := Lib.hid (bool_not hR)
  have HY := Lib.hid (bool_of hR)
  clear hR
  by_cases h1 : 0 ≤ a
  case neg =>
    have g1 : decide (0 ≤ a) = false := decide_eq_false h1
    obtain rfl := HN.out fun h => h1 h.1
    clear HN HY h1
    go_enter Try.func47, Try.ntmps47
    go_wp2
    go_ret
    exact ⟨by first | rfl | exact congrArg (fun q => Ending.returned (Value.bool q)) (by unfold bne; rw [g5]; rfl), rfl⟩
  have g1 : decide (0 ≤ a) = true := decide_eq_true h1
  by_cases h2 : a < n
  case neg =>
    have g2 : decide (a < n) = false := decide_eq_false h2
    obtain rfl := HN.out fun h => h2 h.2.1
    clear HN HY h2
    go_enter Try.func47, Try.ntmps47
    go_wp2
    go_ret
    exact ⟨by first | rfl | exact congrArg (fun q => Ending.returned (Value.bool q)) (by unfold bne; rw [g5]; rfl), rfl⟩
  have g2 : decide (a < n) = true := decide_eq_true h2
  by_cases h3 : 0 ≤ b
  case neg =>
    have g3 : decide (0 ≤ b) = false := decide_eq_false h3
    obtain rfl := HN.out fun h => h3 h.2.2.1
    clear HN HY h3
    go_enter Try.func47, Try.ntmps47
    go_wp2
    go_ret
    exact ⟨by first | rfl | exact congrArg (fun q => Ending.returned (Value.bool q)) (by unfold bne; rw [g5]; rfl), rfl⟩
  have g3 : decide (0 ≤ b) = true := decide_eq_true h3
  by_cases h4 : b < n
  case neg =>
    have g4 : decide (b < n) = false := decide_eq_false h4
    obtain rfl := HN.out fun h => h4 h.2.2.2.1
    clear HN HY h4
    go_enter Try.func47, Try.ntmps47
    go_wp2
    go_ret
    exact ⟨by first | rfl | exact congrArg (fun q => Ending.returned (Value.bool q)) (by unfold bne; rw [g5]; rfl), rfl⟩
  have g4 : decide (b < n) = true := decide_eq_true h4
  by_cases h5 : a ≠ b
  case neg =>
    have g5 : (a == b) = true := by simpa using h5
    obtain rfl := HN.out fun h => h5 h.2.2.2.2
    clear HN HY h5
    go_enter Try.func47, Try.ntmps47
    go_wp2
    go_ret
    exact ⟨by first | rfl | exact congrArg (fun q => Ending.returned (Value.bool q)) (by unfold bne; rw [g5]; rfl), rfl⟩
  have g5 : (a == b) = false := beq_eq_false_iff_ne.2 h5
  obtain rfl := HY.out ⟨h1, h2, h3, h4, h5⟩
  clear HN HY h5
  go_enter Try.func47, Try.ntmps47
  go_wp2
  go_ret
  exact ⟨congrArg (fun q => Ending.returned (Value.bool q)) (by unfold bne; rw [g5]; rfl), rfl⟩
theorem exists_impl (st : Int) (R : Bool) (w : World) (hR : R = true ↔ (0 ≤ st ∧ st ≤ 4)) :
    Calls Try.prog 48 #[.int .i64 st] w fun e w' => e = .returned (.bool R) ∧ w = w' := by
  have HN := Lib.hid (bool_not hR)
  have HY := Lib.hid (bool_of hR)
  clear hR
  by_cases h1 : 0 ≤ st
  case neg =>
    have g1 : decide (0 ≤ st) = false := decide_eq_false h1
    obtain rfl := HN.out fun h => h1 h.1
    clear HN HY h1
    go_enter Try.func48, Try.ntmps48
    go_wp2
    go_ret
    exact ⟨rfl, rfl⟩
  have g1 : decide (0 ≤ st) = true := decide_eq_true h1
  by_cases h2 : st ≤ 4
  case neg =>
    have g2 : decide (st ≤ 4) = false := decide_eq_false h2
    obtain rfl := HN.out fun h => h2 h.2
    clear HN HY h2
    go_enter Try.func48, Try.ntmps48
    go_wp2
    go_ret
    exact ⟨rfl, rfl⟩
  have g2 : decide (st ≤ 4) = true := decide_eq_true h2
  obtain rfl := HY.out ⟨h1, h2⟩
  clear HN HY
  go_enter Try.func48, Try.ntmps48
  go_wp2
  go_ret
  exact ⟨rfl, rfl⟩
theorem allows_impl (st q : Int) (R : Bool) (w : World) (hR : R = true ↔ ((st = 1 ∧ 0 ≤ q ∧ q ≤ 99) ∨ (st ≠ 1 ∧ q = 0))) :
    Calls Try.prog 49 #[.int .i64 st, .int .i64 q] w fun e w' => e = .returned (.bool R) ∧ w = w' := by
  have HN := Lib.hid (bool_not hR)
  have HY := Lib.hid (bool_of hR)
  clear hR
  by_cases h0 : st = 1
  · have HN2 := Lib.hid (fun (h : ¬ (0 ≤ q ∧ q ≤ 99)) => HN.out fun h1 => h1.elim (fun h2 => h h2.2) fun h2 => h2.1 h0)
    have HY2 := Lib.hid (fun (h : 0 ≤ q ∧ q ≤ 99) => HY.out (.inl ⟨h0, h⟩))
    clear HN HY
    subst h0
    by_cases h1 : 0 ≤ q
    case neg =>
      have g1 : decide (0 ≤ q) = false := decide_eq_false h1
      obtain rfl := HN2.out fun h => h1 h.1
      clear HN2 HY2 h1
      go_enter Try.func49, Try.ntmps49
      go_wp2
      go_ret
      exact ⟨rfl, rfl⟩
    have g1 : decide (0 ≤ q) = true := decide_eq_true h1
    by_cases h2 : q ≤ 99
    case neg =>
      have g2 : decide (q ≤ 99) = false := decide_eq_false h2
      obtain rfl := HN2.out fun h => h2 h.2
      clear HN2 HY2 h2
      go_enter Try.func49, Try.ntmps49
      go_wp2
      go_ret
      exact ⟨rfl, rfl⟩
    have g2 : decide (q ≤ 99) = true := decide_eq_true h2
    obtain rfl := HY2.out ⟨h1, h2⟩
    clear HN2 HY2
    go_enter Try.func49, Try.ntmps49
    go_wp2
    go_ret
    exact ⟨rfl, rfl⟩
  · have g0 : (st == 1) = false := beq_eq_false_iff_ne.2 h0
    by_cases h1 : q = 0
    · obtain rfl := HY.out (.inr ⟨h0, h1⟩)
      have g1 : (q == 0) = true := by simpa using h1
      clear HN HY h0 h1
      go_enter Try.func49, Try.ntmps49
      go_wp2
      go_ret
      exact ⟨rfl, rfl⟩
    · obtain rfl := HN.out fun h => h.elim (fun h2 => h0 h2.1) fun h2 => h1 h2.2
      have g1 : (q == 0) = false := beq_eq_false_iff_ne.2 h1
      clear HN HY h0 h1
      go_enter Try.func49, Try.ntmps49
      go_wp2
      go_ret
      exact ⟨rfl, rfl⟩
theorem bool_ex (p : Prop) : ∃ R : Bool, R = true ↔ p := by
  by_cases h : p
  · exact ⟨true, fun _ => h, fun _ => rfl⟩
  · exact ⟨false, (fun e => by cases e), fun e => absurd e h⟩
set_option maxHeartbeats 1000000 in
theorem gameOk_impl (n : Int) (home away hg ag st : Int) (R : Bool) (w : World) (hR : R = true ↔ gameP n ⟨home, away, hg, ag, st⟩) :
    Calls Try.prog 32 #[.int .i64 n, .agg #[.int .i64 home, .int .i64 away, .int .i64 hg, .int .i64 ag, .int .i64 st]] w fun e w' => e = .returned (.bool R) ∧ Below w.heap.size w w' := by
  obtain ⟨ro, hro⟩ := bool_ex (0 ≤ home ∧ home < n ∧ 0 ≤ away ∧ away < n ∧ home ≠ away)
  obtain ⟨re, hre⟩ := bool_ex (0 ≤ st ∧ st ≤ 4)
  obtain ⟨rh, hrh⟩ := bool_ex ((st = 1 ∧ 0 ≤ hg ∧ hg ≤ 99) ∨ (st ≠ 1 ∧ hg = 0))
  obtain ⟨ra, hra⟩ := bool_ex ((st = 1 ∧ 0 ≤ ag ∧ ag ≤ 99) ∨ (st ≠ 1 ∧ ag = 0))
  have hall : R = true ↔ (2 ≤ n ∧ n ≤ 8 ∧ ro = true ∧ re = true ∧ rh = true ∧ ra = true) := by
    rw [hR, hro, hre, hrh, hra]
    unfold gameP
    constructor
    · rintro ⟨⟨a1, a2⟩, ⟨b1, b2⟩, ⟨c1, c2⟩, d, ⟨e1, e2⟩, f⟩
      rcases f with ⟨f1, f2, f3⟩ | ⟨f1, f2, f3⟩
      · exact ⟨a1, a2, ⟨b1, by simp only at *; omega, c1, by simp only at *; omega, d⟩, ⟨e1, e2⟩, .inl ⟨f1, f2⟩, .inl ⟨f1, f3⟩⟩
      · exact ⟨a1, a2, ⟨b1, by simp only at *; omega, c1, by simp only at *; omega, d⟩, ⟨e1, e2⟩, .inr ⟨f1, f2⟩, .inr ⟨f1, f3⟩⟩
    · rintro ⟨a1, a2, ⟨b1, b2, c1, c2, d⟩, ⟨e1, e2⟩, f, f'⟩
      refine ⟨⟨a1, a2⟩, ⟨b1, by simp only at *; omega⟩, ⟨c1, by simp only at *; omega⟩, d, ⟨e1, e2⟩, ?_⟩
      rcases f with ⟨f1, f2⟩ | ⟨f1, f2⟩
      · rcases f' with ⟨f3, f4⟩ | ⟨f3, f4⟩
        · exact .inl ⟨f1, f2, f4⟩
        · exact absurd f1 f3
      · rcases f' with ⟨f3, f4⟩ | ⟨f3, f4⟩
        · exact absurd f3 f1
        · exact .inr ⟨f1, f2, f4⟩
  have CO := Lib.hid (fun w1 => areOpp_impl n home away ro w1 hro)
  have CE := Lib.hid (fun w1 => exists_impl st re w1 hre)
  have CH := Lib.hid (fun w1 => allows_impl st hg rh w1 hrh)
  have CA := Lib.hid (fun w1 => allows_impl st ag ra w1 hra)
  have HN := Lib.hid (bool_not hall)
  have HY := Lib.hid (bool_of hall)
  clear hR hro hre hrh hra hall
  by_cases h1 : 2 ≤ n
  case neg =>
    have g1 : decide (2 ≤ n) = false := decide_eq_false h1
    obtain rfl := HN.out fun h => h1 h.1
    clear HN HY h1
    go_enter Try.func32, Try.ntmps32
    go_wp2
    go_ret
    exact ⟨rfl, (Below.refl _ _).alloc (Nat.le_refl _) _⟩
  have g1 : decide (2 ≤ n) = true := decide_eq_true h1
  by_cases h2 : n ≤ 8
  case neg =>
    have g2 : decide (n ≤ 8) = false := decide_eq_false h2
    obtain rfl := HN.out fun h => h2 h.2.1
    clear HN HY h2
    go_enter Try.func32, Try.ntmps32
    go_wp2
    go_ret
    exact ⟨rfl, (Below.refl _ _).alloc (Nat.le_refl _) _⟩
  have g2 : decide (n ≤ 8) = true := decide_eq_true h2
  cases ro with
  | false =>
    obtain rfl := HN.out fun h => by have := h.2.2.1; cases this
    clear HN HY
    go_enter Try.func32, Try.ntmps32
    go_wp2_with fail
    refine (CO.out _).mono ?_
    rintro e w' ⟨rfl, rfl⟩
    go_wp2
    go_ret
    exact ⟨rfl, (Below.refl _ _).alloc (Nat.le_refl _) _⟩
  | true =>
  cases re with
  | false =>
    obtain rfl := HN.out fun h => by have := h.2.2.2.1; cases this
    clear HN HY
    go_enter Try.func32, Try.ntmps32
    go_wp2_with fail
    refine (CO.out _).mono ?_
    rintro e w' ⟨rfl, rfl⟩
    go_wp2_with fail
    refine (CE.out _).mono ?_
    rintro e w' ⟨rfl, rfl⟩
    go_wp2
    go_ret
    exact ⟨rfl, (Below.refl _ _).alloc (Nat.le_refl _) _⟩
  | true =>
  cases rh with
  | false =>
    obtain rfl := HN.out fun h => by have := h.2.2.2.2.1; cases this
    clear HN HY
    go_enter Try.func32, Try.ntmps32
    go_wp2_with fail
    refine (CO.out _).mono ?_
    rintro e w' ⟨rfl, rfl⟩
    go_wp2_with fail
    refine (CE.out _).mono ?_
    rintro e w' ⟨rfl, rfl⟩
    go_wp2_with fail
    refine (CH.out _).mono ?_
    rintro e w' ⟨rfl, rfl⟩
    go_wp2
    go_ret
    exact ⟨rfl, (Below.refl _ _).alloc (Nat.le_refl _) _⟩
  | true =>
  cases ra with
  | false =>
    obtain rfl := HN.out fun h => by have := h.2.2.2.2.2; cases this
    clear HN HY
    go_enter Try.func32, Try.ntmps32
    go_wp2_with fail
    refine (CO.out _).mono ?_
    rintro e w' ⟨rfl, rfl⟩
    go_wp2_with fail
    refine (CE.out _).mono ?_
    rintro e w' ⟨rfl, rfl⟩
    go_wp2_with fail
    refine (CH.out _).mono ?_
    rintro e w' ⟨rfl, rfl⟩
    go_wp2_with fail
    refine (CA.out _).mono ?_
    rintro e w' ⟨rfl, rfl⟩
    go_wp2
    go_ret
    exact ⟨rfl, (Below.refl _ _).alloc (Nat.le_refl _) _⟩
  | true =>
  obtain rfl := HY.out ⟨h1, h2, rfl, rfl, rfl, rfl⟩
  clear HN HY
  go_enter Try.func32, Try.ntmps32
  go_wp2_with fail
  refine (CO.out _).mono ?_
  rintro e w' ⟨rfl, rfl⟩
  go_wp2_with fail
  refine (CE.out _).mono ?_
  rintro e w' ⟨rfl, rfl⟩
  go_wp2_with fail
  refine (CH.out _).mono ?_
  rintro e w' ⟨rfl, rfl⟩
  go_wp2_with fail
  refine (CA.out _).mono ?_
  rintro e w' ⟨rfl, rfl⟩
  go_wp2
  go_ret
  exact ⟨rfl, (Below.refl _ _).alloc (Nat.le_refl _) _⟩
end Go.Proofs.Ytojkonhhaamodaa
set_option linter.unusedVariables false
namespace Go.Proofs.Ytojkonhhaamodaa
open Go.RowKit

theorem isOpen_impl (home away hg ag st : Int) (w : World) :
    Calls Try.prog 34 #[.agg #[.int .i64 home, .int .i64 away, .int .i64 hg, .int .i64 ag, .int .i64 st]] w fun e w' => e = .returned (.bool (st == 0)) ∧ Below w.heap.size w w' := by
  go_enter Try.func34, Try.ntmps34
  go_wp2
  go_ret
  exact ⟨rfl, (Below.refl _ _).alloc (Nat.le_refl _) _⟩
theorem isFixture_impl (home away hg ag st h a : Int) (w : World) :
    Calls Try.prog 33 #[.agg #[.int .i64 home, .int .i64 away, .int .i64 hg, .int .i64 ag, .int .i64 st], .int .i64 h, .int .i64 a] w fun e w' => e = .returned (.bool (home == h && away == a)) ∧ Below w.heap.size w w' := by
  cases g1 : home == h with
  | true =>
    cases g2 : away == a with
    | true =>
      go_enter Try.func33, Try.ntmps33
      go_wp2
      go_ret
      exact ⟨rfl, (Below.refl _ _).alloc (Nat.le_refl _) _⟩
    | false =>
      go_enter Try.func33, Try.ntmps33
      go_wp2
      go_ret
      exact ⟨rfl, (Below.refl _ _).alloc (Nat.le_refl _) _⟩
  | false =>
    go_enter Try.func33, Try.ntmps33
    go_wp2
    go_ret
    exact ⟨rfl, (Below.refl _ _).alloc (Nat.le_refl _) _⟩
/-- a function value that holds two numbers in boxes B1, B2 -/
def twoBoxes (f B1 B2 : Nat) : Value := .func (.func f) #[] #[.pointer (some ⟨B1, 0, none⟩), .pointer (some ⟨B2, 0, none⟩)]
end Go.Proofs.Ytojkonhhaamodaa
