/-
  Records: the model's ApplyNotes.
-/
import Derived.Test.YtlahjaakegdigaaCanon
import Derived.Test.YtlahjaakegdigaaPush2
set_option linter.unusedVariables false
namespace Go.Proofs.Ytlahjaakegdigaa
open Go.RowKit

/-- the games after the first j notes of C -/
def applyN (g : Nat → GameD) (C : List NoteD) : Nat → Nat → GameD
  | 0 => g
  | j + 1 => fun i => if i = (getN' C j).game.toNat then (getN' C j).res else applyN g C j i
theorem ins_mem (L : List NoteD) (x y : NoteD) (h : y ∈ insN L x) : y ∈ L ∨ y = x := by
  unfold insN at h
  split at h
  · exact .inl h
  · rcases List.mem_append.1 h with h | h
    · exact .inl (List.mem_of_mem_take h)
    · rcases List.mem_cons.1 h with h | h
      · exact .inr h
      · exact .inl (List.mem_of_mem_drop h)
theorem canon_mem (g : Nat → NoteD) (y : NoteD) : ∀ n, y ∈ canonL g n → ∃ i, i < n ∧ g i = y := by
  intro n
  induction n with
  | zero => intro h; simp [canonL] at h
  | succ n ih =>
    intro h
    rcases ins_mem _ _ _ (show y ∈ insN (canonL g n) (g n) from h) with h | h
    · obtain ⟨i, hi, he⟩ := ih h; exact ⟨i, by omega, he⟩
    · exact ⟨n, by omega, h.symm⟩
theorem getN_mem (L : List NoteD) (j : Nat) (h : j < L.length) : getN' L j ∈ L := by
  unfold getN'
  rw [List.getD_eq_getElem?_getD, List.getElem?_eq_getElem h]
  exact List.getElem_mem h
theorem GameD.ones (x : GameD) : ∀ u ∈ x.cells, u.oneCell' = true := by
  intro u hu; simp [GameD.cells] at hu; rcases hu with rfl | rfl | rfl | rfl | rfl <;> rfl
set_option maxRecDepth 100000 in
set_option maxHeartbeats 1000000 in
theorem applyNotes_spec (n : Int) (v : Value) (m : Nat) (g : Nat → GameD) (v' : Value) (k : Nat) (ns : Nat → NoteD) (R : Bool) (w : World) (hR : R = true ↔ notesP n m g k ns) (hv : GameRow w v m g) (hv' : NoteRow w v' k ns) :
    Calls Try.prog 26 #[.int .i64 n, v, v'] w fun e w' => (R = false ∧ e = .returned (.tuple #[.slice none 0 0, .bool false]) ∧ Below w.heap.size w w') ∨
      (R = true ∧ ∃ vv xs, e = .returned (.tuple #[vv, .bool true]) ∧ w'.ownsRow w.heap.size 31 5 vv m xs ∧ RecCells 5 m xs (fun i => (applyN g (canonL ns k) (canonL ns k).length i).cells) ∧ Below w.heap.size w w') := by
  have C := Lib.hid (fun w1 h1 h2 => notesOk_spec n v m g v' k ns R w1 hR h1 h2)
  cases R with
  | false =>
    clear hR
    go_enter Try.func26, Try.ntmps26
    go_wp2_with fail
    refine (C.out _ hv hv').mono ?_
    rintro e w2 ⟨rfl, b2⟩
    clear hv hv'
    go_wp2
    go_ret2
    exact .inl ⟨trivial, rfl, b2⟩
  | true =>
  have hP := hR.1 rfl
  have hm60 := hP.1.1
  have hk80 := hP.2.1
  have HNP : Hid (∀ j, j < (canonL ns k).length → noteP n m g (getN' (canonL ns k) j)) := fun j hj => by
    obtain ⟨i, hi, he⟩ := canon_mem ns _ k (getN_mem _ j hj)
    rw [← he]; exact (hP.2.2 i hi).1
  have hCL := canon_len ns k
  obtain ⟨i0, hi, hz0, hz1, hz2⟩ := info_parts Try.infoGame
  have HG := Lib.hid hv
  have HN := Lib.hid hv'
  have CC := Lib.hid (fun w1 h1 => (canonNotes_spec v' k ns w1 h1 (by omega)).mono fun _ _ h => NotesL.made h (by omega))
  generalize hC0 : canonL ns k = C0 at *
  clear hC0 hR hv hv' hP
  go_enter Try.func26, Try.ntmps26
  go_wp2_with fail
  refine (C.out _ HG.out HN.out).mono ?_
  rintro e w2 ⟨rfl, b2⟩
  have z2 := b2.size
  have HG2 := Lib.hid (HG.out.below b2 (Nat.le_refl _))
  have HB2 := Lib.hid b2
  clear C b2
  go_wp2_with (at_builtin; refine wpList_cloneR rfl (.tmp 16) (.tmp 17) 29 rfl 31 Try.underlying29 hi hz0 hz1 hz2 rfl (by decide) (by simp [go_sem]) rfl HG2.out (fun i hi => rfl) (fun i hi => GameD.ones _) (by omega) (by omega) ?_; intro vv w3 o3 b3; have z3 := b3.size; have HB3 := Lib.hid (HB2.out.trans (b3.mono z2)); have HO3 := Lib.hid (owns_mono o3 z2); have HC3 := Lib.hid (flatR_cells 5 (fun i => (g i).cells) m (fun i hi => rfl)); have HN3 := Lib.hid (HN.out.below HB3.out (Nat.le_refl _)); generalize flatR (fun i => (g i).cells) m = xs0 at *; have hin3 := Lib.hid (InW.of_owns HO3.out); have z23 := HB3.out.size; clear b3 o3 HG2)
  refine (CC.out _ HN3.out).mono ?_
  rintro e w4 ⟨cv, rfl, hcv, ⟨xsC, hoC⟩, b4⟩
  have z4 := b4.size
  have HB4 := Lib.hid (HB3.out.trans (b4.mono z23))
  have HO4 := Lib.hid (owns_below HO3.out b4 (Nat.le_refl _))
  have HIC := Lib.hid (InW.of_owns hoC)
  have HCV := Lib.hid hcv
  obtain ⟨ca, cc, rfl, _, _⟩ := hcv.form
  clear hcv hoC HB3 HO3 HN3 CC b4
  generalize hE : w3.heap.size = E at *
  clear hE z3
  go_wp2
  go_loopw [22] (fun i wr => ∃ (j : Nat) (xs : List Value), j ≤ C0.length ∧ i = .int .i64 j ∧ Hid (wr.ownsRow w.heap.size 31 5 vv m xs) ∧ Hid (RecCells 5 m xs fun i => (applyN g C0 j i).cells) ∧ Hid (NoteRow wr (.slice ca C0.length cc) C0.length (getN' C0)) ∧ Hid (Below w.heap.size w wr)) (fun i _ => C0.length - (intOf i).toNat)
  case atStart => exact ⟨0, xs0, Nat.zero_le _, rfl, HO4, HC3, HCV, HB4⟩
  case round =>
    clear HO4 HC3 HCV HB4
    obtain ⟨j, xs, hj, rfl, hown, hcl, hcv, hb⟩ := hrel
    by_cases hlt : j < C0.length
    · have hnp := HNP.out j hlt
      have HS : Hid (∀ i, applyN g C0 (j + 1) i = if i = (getN' C0 j).game.toNat then (getN' C0 j).res else applyN g C0 j i) := fun i => rfl
      obtain ⟨aa, cap, he, hcap0, hcf⟩ := hcv.out.form
      obtain ⟨b, off, rfl, hcap, hcc⟩ := hcf (by omega)
      simp only [Value.slice.injEq, true_and] at he
      obtain ⟨rfl, rfl⟩ := he
      have hq := hcc j hlt
      generalize getN' C0 j = x at *
      obtain ⟨sr, gm, rs⟩ := x
      obtain ⟨t, rfl⟩ : ∃ t : Nat, gm = (t : Int) := ⟨gm.toNat, by have h := hnp.2.1; simp only at h; omega⟩
      have htm : t < m := by have h := hnp.2.1; simp only at h; omega
      simp only [Int.toNat_natCast] at HS
      obtain ⟨gg, gcap, hvv⟩ : ∃ gg gcap, vv = .slice (some ⟨gg, 0, none⟩) m gcap := by
        obtain ⟨gg, gcap, h, _⟩ := hown.out.form (by omega)
        exact ⟨gg, gcap, h⟩
      subst hvv
      obtain ⟨c0, c1, c2, c3, c4, c5, c6⟩ := note_cells hq
      have hsz := hb.out.size
      have hg0 : Below wr.heap.size wr (wr.alloc (.cells #[.int .i64 sr, .int .i64 (t : Int), .int .i64 rs.home, .int .i64 rs.away, .int .i64 rs.hg, .int .i64 rs.ag, .int .i64 rs.st] 33)) := (Below.refl _ _).alloc (Nat.le_refl _) _
      have hown2 := owns_below hown.out hg0 (Nat.le_refl _)
      have hcv2 := Lib.hid (hcv.out.below hg0 (Nat.le_refl _))
      have hb2 := Lib.hid (hb.out.trans (hg0.mono hsz))
      have hgw : w.heap.size ≤ gg := (hown.out.lt gg rfl).1
      have hgs : gg < wr.heap.size := (hown.out.lt gg rfl).2
      have hgE : gg < E := (hin3.out gg rfl).2
      have HU := Lib.hid (cells_update (t := t) (cs := rs.cells) hcl.out hown.out.1 htm rfl (fun _ _ => Nat.le_refl _))
      obtain ⟨u0, e0⟩ := owns_cellR hown.out (t * 5) (by omega)
      have f0 := hown.out.frozenAt (t * 5)
      obtain ⟨u1, e1⟩ := owns_cellR hown.out (t * 5 + 1) (by omega)
      have f1 := hown.out.frozenAt (t * 5 + 1)
      obtain ⟨u2, e2⟩ := owns_cellR hown.out (t * 5 + 2) (by omega)
      have f2 := hown.out.frozenAt (t * 5 + 2)
      obtain ⟨u3, e3⟩ := owns_cellR hown.out (t * 5 + 3) (by omega)
      have f3 := hown.out.frozenAt (t * 5 + 3)
      obtain ⟨u4, e4⟩ := owns_cellR hown.out (t * 5 + 4) (by omega)
      have f4 := hown.out.frozenAt (t * 5 + 4)
      have hcongr : Hid (∀ i, i < m → (if i = t then rs.cells else (applyN g C0 j i).cells) = (applyN g C0 (j + 1) i).cells) := fun i _ => by rw [HS.out i]; by_cases h : i = t <;> simp [h]
      have HO2 := Lib.hid hown2
      clear hcc hcf hq hg0 hnp hcl hown2 hcv2 hb2 HO2
      go_wp2
      go_roundw
      case rel =>
        refine ⟨j + 1, setsFrom xs (t * 5) rs.cells, by omega, by go_num, ?_, Lib.hid (RecCells.congr HU.out hcongr.out), ?_, ?_⟩
        · have h5 := (((((hown.out.stored (t * 5) (Value.int .i64 rs.home)).1.stored (t * 5 + 1) (Value.int .i64 rs.away)).1.stored (t * 5 + 2) (Value.int .i64 rs.hg)).1.stored (t * 5 + 3) (Value.int .i64 rs.ag)).1.stored (t * 5 + 4) (Value.int .i64 rs.st)).1
          exact Lib.hid (h5.alloc _)
        · have h6 := NoteRow.touch hcv.out (Touch.setCell (lo := w.heap.size) (hi := E) (Touch.setCell (lo := w.heap.size) (hi := E) (Touch.setCell (lo := w.heap.size) (hi := E) (Touch.setCell (lo := w.heap.size) (hi := E) (Touch.setCell (lo := w.heap.size) (hi := E) (Touch.refl w.heap.size E wr) ⟨gg, t * 5, none⟩ (Value.int .i64 rs.home) hgw hgE) ⟨gg, t * 5 + 1, none⟩ (Value.int .i64 rs.away) hgw hgE) ⟨gg, t * 5 + 2, none⟩ (Value.int .i64 rs.hg) hgw hgE) ⟨gg, t * 5 + 3, none⟩ (Value.int .i64 rs.ag) hgw hgE) ⟨gg, t * 5 + 4, none⟩ (Value.int .i64 rs.st) hgw hgE) (fun _ => HIC.out) (Or.inr (Nat.le_refl _))
          exact Lib.hid (h6.below ((Below.refl _ _).alloc (Nat.le_refl _) _) (Nat.le_refl _))
        · have h7 := (Below.setCell (Below.setCell (Below.setCell (Below.setCell (Below.setCell hb.out (p := ⟨gg, t * 5, none⟩) hgw (Value.int .i64 rs.home)) (p := ⟨gg, t * 5 + 1, none⟩) hgw (Value.int .i64 rs.away)) (p := ⟨gg, t * 5 + 2, none⟩) hgw (Value.int .i64 rs.hg)) (p := ⟨gg, t * 5 + 3, none⟩) hgw (Value.int .i64 rs.ag)) (p := ⟨gg, t * 5 + 4, none⟩) hgw (Value.int .i64 rs.st))
          exact Lib.hid (h7.alloc (by simpa using h7.size) _)
      case measure => simp [intOf]; omega
    · obtain rfl : j = C0.length := by omega
      go_wp2
      go_ret2
      exact .inr ⟨trivial, _, xs, rfl, hown.out, hcl.out, hb.out⟩
end Go.Proofs.Ytlahjaakegdigaa
