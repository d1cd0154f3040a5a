/-
  Records: the program's CanonNotes.
-/
import Derived.Test.YtlahjaakegdigaaCanonImpl
set_option linter.unusedVariables false
namespace Go.Proofs.Ytlahjaakegdigaa
open Go.RowKit Go.Maps

theorem IntRow.off {w w' : World} {v : Value} {n lo hi : Nat} {g : Nat → Int} {row : Option Nat} (h : IntRow w v n g) (hv : InW lo hi v) (hg : w.grownBy w' row) (hr : ∀ q, row = some q → q < lo ∨ hi ≤ q) : IntRow w' v n g := by
  cases row with
  | none => exact h.touch (Touch.grown (lo := hi) (hi := hi) hg (fun k hk => by cases hk)) (fun _ => hv) (.inl (Nat.le_refl _))
  | some q =>
    rcases hr q rfl with h1 | h1
    · exact h.touch (Touch.grown (lo := 0) (hi := lo) hg (fun k hk => by cases hk; omega)) (fun _ => hv) (.inr (Nat.le_refl _))
    · exact h.touch (Touch.grown (lo := hi) (hi := q + 1) hg (fun k hk => by cases hk; omega)) (fun _ => hv) (.inl (Nat.le_refl _))
theorem take_next (L : List Int) (k : Nat) (hk : k < L.length) : L.take (k + 1) = L.take k ++ [getI L k] := by
  have : getI L k = L[k] := by simp [getI, List.getD_eq_getElem?_getD, List.getElem?_eq_getElem hk]
  rw [this]
  exact (List.take_append_getElem hk).symm
set_option maxRecDepth 100000 in
set_option maxHeartbeats 1000000 in
theorem canonNotes_impl (v : Value) (n : Nat) (g : Nat → NoteD) (w : World) (hf : ∀ i, (g i).fit) (hv : NoteRow w v n g) (hn6 : n ≤ 1048576) :
    Calls Try.prog 23 #[v] w (NotesL w (canonL g n)) := by
  obtain ⟨i0, hi, hz0, hz1, hz2⟩ := info_parts Try.infoNote
  obtain ⟨aa, cap, B, O, rfl, hn63, hat⟩ := hv.at
  have CF := Lib.hid (firstNotes_impl aa n cap B O g w hf hat hn6)
  have HAT := Lib.hid hat
  have HF := Lib.hid hf
  clear hv hat hf
  go_enter Try.func23, Try.ntmps23
  go_wp2_with fail
  refine CF.out.mono ?_
  rintro e w1 ⟨M, rfl, hM, hm1, b1⟩
  have HM1 := Lib.hid hm1
  have HB1 := Lib.hid b1
  have z1 := b1.size
  have HML0 := Lib.hid hm1.lt
  obtain ⟨D, ho, _⟩ := hm1
  have hsl := ho.size_le
  obtain ⟨w2, hmk, o2, g2⟩ := run_makeSlice_owned (P := Try.prog) w1 w.heap.size 40 33 i0 _ 7 Try.underlying40 hi hz0 hz1 .i64 .i64 (Maps.size D) (by omega) (by rw [hz2]; omega) (by unfold maxLen; omega) z1
  have HO2 := Lib.hid o2
  have HM2 := Lib.hid (HM1.out.grown g2 (by simp))
  have HB2 := Lib.hid (b1.grown g2 z1 (by simp))
  have z2 := HB2.out.size
  have z12 := g2.size
  have HOW := Lib.hid ho
  clear CF HM1 b1 o2 g2 ho
  go_wp2_with (at_len; refine wpList_len_own _ rfl (.tmp 9) 59 rfl 3 61 Try.underlying59 _ M n D rfl HOW.out ?_)
  clear HOW hmk
  generalize hcz : Maps.size D = cz at *
  clear hcz
  go_wp2_with fail
  refine (keys_impl (some M) w2).mono ?_
  rintro e w3 ⟨rfl, rfl⟩
  go_wp2_with fail
  refine (sorted_impl B O M n (firstS g n) w2 HM2.out hn6).mono ?_
  rintro e w4 ⟨kv, L, rfl, hL1, hL2, hL3, hL4, b4⟩
  have b5 := below_prev b4
  have HML : Hid (M < w1.heap.size ∧ w1.heap.size ≤ w4.heap.size) := Lib.hid ⟨HML0.out, by have := b5.size; omega⟩
  have HCE := Lib.hid (canon_eq g n L hL1 hL2)
  have HIN := Lib.hid (fun s hs => (hL2 s).1 hs)
  have HO4 := Lib.hid (owns_below HO2.out b5 (Nat.le_refl _))
  have HM4 := Lib.hid (HM2.out.below b5 (Nat.le_refl _))
  have HB4 := Lib.hid (HB2.out.trans (b5.mono z2))
  have HL4 := Lib.hid (IntRow.of_list hL3 (by omega))
  have HIL := Lib.hid (InW.of_owns hL3)
  obtain ⟨ka, kc, hkv⟩ := owns_form hL3
  subst hkv
  have hs3 : (w2.alloc (.cells #[.map (some M)] 59)).heap.size = w2.heap.size + 1 := by simp
  rw [hs3] at HIL
  have HW2 : Hid (w2.heap.size < w2.heap.size + 1) := Lib.hid (Nat.lt_succ_self _)
  have hO2w : Hid (∀ q, (Value.slice (some ⟨w1.heap.size, 0, none⟩) 0 cz).ownBlock = some q → q < w2.heap.size) := Lib.hid fun q hq => (HO2.out.lt q hq).2
  clear hL1 hL2 hL3 b4 b5 HO2 HM2 HB2 hs3
  go_wp2
  go_loopw [4, 16] (fun out i wr => ∃ k : Nat, k ≤ L.length ∧ i = .int .i64 k ∧ Hid (wr.ownsRow w.heap.size 33 7 out k (((L.take k).map fun s => g (firstS g n s).toNat).flatMap NoteD.cells)) ∧ Hid (PtrMap Try.prog wr 3 B O M n (firstS g n)) ∧ Hid (IntRow wr (.slice ka L.length kc) L.length (getI L)) ∧ Hid (∀ q, out.ownBlock = some q → (q < w2.heap.size ∨ w4.heap.size ≤ q) ∧ q ≠ M) ∧ w4.heap.size ≤ wr.heap.size ∧ Hid (Below w.heap.size w wr)) (fun _ i _ => L.length - (intOf i).toNat)
  case atStart => exact ⟨0, Nat.zero_le _, rfl, Lib.hid (by simpa using HO4.out), HM4, HL4, Lib.hid (fun q hq => ⟨.inl (hO2w.out q hq), by have := HML.out; simp [Value.ownBlock] at hq; omega⟩), Nat.le_refl _, HB4⟩
  case round =>
    clear HO4 HM4 HL4 HB4 hO2w
    obtain ⟨k, hk, rfl, hown, hm, hrow, hat, hsz4, hb⟩ := hrel
    have hsz := hb.out.size
    by_cases hlt : k < L.length
    · obtain ⟨kb, ko, hkb, hc0⟩ : ∃ kb ko, ka = some ⟨kb, ko, none⟩ ∧ wr.cell? ⟨kb, ko + k, none⟩ = some (.int .i64 (getI L k)) := by
        rcases hrow.out with ⟨_, _, he, h0⟩ | ⟨kb, ko, kc', he, _, _, hc, _⟩
        · omega
        · simp only [Value.slice.injEq] at he
          exact ⟨kb, ko, he.1, hc k hlt⟩
      subst hkb
      have hin : 0 ≤ firstS g n (getI L k) := HIN.out _ (by unfold getI; rw [List.getD_eq_getElem?_getD, List.getElem?_eq_getElem hlt]; exact List.getElem_mem hlt)
      obtain ⟨j, hj⟩ : ∃ j : Nat, firstS g n (getI L k) = (j : Int) := ⟨(firstS g n (getI L k)).toNat, by omega⟩
      have hjn : j < n ∧ (g j).serial = getI L k := by
        rcases firstS_spec g (getI L k) n with ⟨h1, _⟩ | ⟨j', h1, h2, h3, _⟩
        · omega
        · obtain rfl : j = j' := by omega
          exact ⟨h2, h3⟩
      have hwf : (Lit.int .i64 (getI L k)).wf = true := by rw [← hjn.2]; exact wfI (HF.out j).1
      have hlk := hm.out.run kInt Try.underlying59 Try.underlying3 (zPtrN wr) hwf
      rw [hj, ptrV_nat] at hlk
      obtain ⟨rfl, _, hnc⟩ := HAT.out (by omega)
      have hq := (hnc j hjn.1).belowB hb.out (hnc j hjn.1).1
      have HNX : Hid ((((L.take (k + 1)).map fun s => g (firstS g n s).toNat).flatMap NoteD.cells) = (((L.take k).map fun s => g (firstS g n s).toNat).flatMap NoteD.cells) ++ (g j).cells) := Lib.hid (by
        rw [take_next L k hlt, List.map_append, List.flatMap_append]
        simp [hj])
      generalize getI L k = sk at *
      generalize g j = x at *
      generalize ((L.take k).map fun s => g (firstS g n s).toNat).flatMap NoteD.cells = xs at *
      have hxl := hown.out.1
      obtain ⟨c0, c1, c2, c3, c4, c5, c6⟩ := note_cells hq
      have hcl := hq.1
      clear hjn hwf hnc hq hin hj HAT HF HCE
      go_wp2_with (at_builtin; refine wpList_pushL rfl (.tmp 20) (.tmp 26) 40 rfl w.heap.size 33 Try.underlying40 hi hz0 hz1 hz2 rfl (by decide) x.cells rfl (by intro u hu; simp [NoteD.cells] at hu; rcases hu with rfl | rfl | rfl | rfl | rfl | rfl | rfl <;> rfl) rfl (by show Value.slice (some ⟨_, 0, none⟩) 1 1 = _; simp) hown.out (by unfold maxLen; omega) (by omega) hsz ?_; intro gg cc5 w5 o5 g5 at5 lt5)
      have h5s := g5.size
      have HR5 := Lib.hid (hrow.out.off HIL.out g5 (fun q hq => by have := (hat.out q hq).1; omega))
      have HM5 := Lib.hid (hm.out.grown g5 (fun e => (hat.out M e.symm).2 rfl))
      have HA5 : Hid (∀ q, (Value.slice (some ⟨gg, 0, none⟩) (k + 1) cc5).ownBlock = some q → (q < w2.heap.size ∨ w4.heap.size ≤ q) ∧ q ≠ M) := Lib.hid fun q hq => by
        simp [Value.ownBlock] at hq
        subst hq
        rcases at5 with h | h
        · exact hat.out gg h
        · have h' : wr.heap.size ≤ gg := h
          have := HML.out
          exact ⟨.inr (by omega), by omega⟩
      go_roundw
      case rel => exact ⟨k + 1, by omega, by go_num, Lib.hid (by rw [HNX.out]; exact o5), HM5, HR5, HA5, by omega, Lib.hid (hb.out.grown g5 hsz (fun q hq => (hown.out.lt q hq).1))⟩
      case measure => simp [intOf]; omega
    · obtain rfl : k = L.length := by omega
      have ho := hown.out
      rw [List.take_length, ← HCE.out] at ho
      have hlen : L.length = (canonL g n).length := by rw [HCE.out]; simp
      rw [hlen] at ho
      go_wp2
      go_ret
      exact ⟨_, rfl, ho, hb.out⟩
end Go.Proofs.Ytlahjaakegdigaa
