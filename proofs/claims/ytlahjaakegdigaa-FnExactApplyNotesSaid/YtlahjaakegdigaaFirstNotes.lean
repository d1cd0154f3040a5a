/-
  Records: the program's firstNotes: the first note with each serial number, by pointers into the notes.
-/
import Derived.Test.YtlahjaakegdigaaRecImplB
import Derived.Test.YtlahjaakegdigaaPtrMap
set_option linter.unusedVariables false
namespace Go.Proofs.Ytlahjaakegdigaa
open Go.RowKit Go.Maps

/-- the first index, below k, with the serial number s; -1 where there is none -/
def firstS (g : Nat → NoteD) : Nat → Int → Int
  | 0, _ => -1
  | k + 1, s => if 0 ≤ firstS g k s then firstS g k s else if (g k).serial = s then (k : Int) else -1
theorem firstS_spec (g : Nat → NoteD) (s : Int) : ∀ n, (firstS g n s = -1 ∧ ∀ i, i < n → (g i).serial ≠ s) ∨ ∃ j : Nat, firstS g n s = (j : Int) ∧ j < n ∧ (g j).serial = s ∧ ∀ i, i < j → (g i).serial ≠ s := by
  intro n
  induction n with
  | zero => exact .inl ⟨rfl, fun i hi => absurd hi (by omega)⟩
  | succ n ih =>
    unfold firstS
    rcases ih with ⟨h1, h2⟩ | ⟨j, h1, h2, h3, h4⟩
    · rw [h1, if_neg (by omega)]
      by_cases h : (g n).serial = s
      · rw [if_pos h]
        exact .inr ⟨n, rfl, by omega, h, h2⟩
      · rw [if_neg h]
        refine .inl ⟨rfl, fun i hi => ?_⟩
        by_cases e : i = n
        · subst e; exact h
        · exact h2 i (by omega)
    · rw [h1, if_pos (by omega)]
      exact .inr ⟨j, rfl, by omega, h3, h4⟩
theorem firstS_ge (g : Nat → NoteD) (n : Nat) (s : Int) : -1 ≤ firstS g n s := by
  rcases firstS_spec g s n with ⟨h, _⟩ | ⟨j, h, _⟩ <;> omega
theorem firstS_at (g : Nat → NoteD) {n q : Nat} (h : q < n) : ∃ j : Nat, firstS g n (g q).serial = (j : Int) ∧ j ≤ q ∧ (g j).serial = (g q).serial := by
  rcases firstS_spec g (g q).serial n with ⟨_, h2⟩ | ⟨j, h1, h2, h3, h4⟩
  · exact absurd rfl (h2 q h)
  · refine ⟨j, h1, ?_, h3⟩
    by_cases hq : q < j
    · exact absurd rfl (h4 q hq)
    · omega
theorem firstS_keep (g : Nat → NoteD) {k : Nat} (h : 0 ≤ firstS g k (g k).serial) (t : Int) : firstS g (k + 1) t = firstS g k t := by
  have ht := firstS_ge g k t
  show (if 0 ≤ firstS g k t then firstS g k t else if (g k).serial = t then (k : Int) else -1) = _
  by_cases e : 0 ≤ firstS g k t
  · rw [if_pos e]
  · rw [if_neg e]
    by_cases e2 : (g k).serial = t
    · subst e2; exact absurd h e
    · rw [if_neg e2]; omega
theorem firstS_new (g : Nat → NoteD) {k : Nat} (h : firstS g k (g k).serial < 0) : firstS g (k + 1) (g k).serial = (k : Int) := by
  show (if 0 ≤ firstS g k (g k).serial then _ else _) = _
  rw [if_neg (by omega), if_pos rfl]
theorem firstS_other (g : Nat → NoteD) {k : Nat} (t : Int) (ht : t ≠ (g k).serial) : firstS g (k + 1) t = firstS g k t := by
  have h := firstS_ge g k t
  show (if 0 ≤ firstS g k t then firstS g k t else if (g k).serial = t then (k : Int) else -1) = _
  by_cases e : 0 ≤ firstS g k t
  · rw [if_pos e]
  · rw [if_neg e, if_neg (Ne.symm ht)]; omega
/-- n notes lie at block b, offset o, where there are any -/
def NotesAt (w : World) (aa : Option Addr) (n cap b o : Nat) (g : Nat → NoteD) : Prop := 0 < n → aa = some ⟨b, o, none⟩ ∧ n ≤ cap ∧ ∀ i, i < n → CellsAt w b (o + i * 7) (g i).cells
theorem NoteRow.at {w : World} {v : Value} {n : Nat} {g : Nat → NoteD} (h : NoteRow w v n g) : ∃ aa cap b o, v = .slice aa n cap ∧ n ≤ 9223372036854775807 ∧ NotesAt w aa n cap b o g := by
  obtain ⟨aa, cap, rfl, hn, hc⟩ := h.form
  by_cases h0 : 0 < n
  · obtain ⟨b, o, h1, h2, h3⟩ := hc h0
    exact ⟨aa, cap, b, o, rfl, hn, fun _ => ⟨h1, h2, h3⟩⟩
  · exact ⟨aa, cap, 0, 0, rfl, hn, fun h => absurd h h0⟩
theorem NotesAt.below {w w' : World} {aa : Option Addr} {n cap b o B : Nat} {g : Nat → NoteD} (h : NotesAt w aa n cap b o g) (hb : Below B w w') (hB : w.heap.size ≤ B) : NotesAt w' aa n cap b o g := fun h0 => by
  obtain ⟨h1, h2, h3⟩ := h h0
  exact ⟨h1, h2, fun i hi => (h3 i hi).belowB hb (by have := (h3 i hi).1; omega)⟩
theorem NotesAt.row {w : World} {aa : Option Addr} {n cap b o : Nat} {g : Nat → NoteD} (h : NotesAt w aa n cap b o g) (hn : n ≤ 9223372036854775807) : NoteRow w (.slice aa n cap) n g := by
  by_cases h0 : 0 < n
  · obtain ⟨rfl, h2, h3⟩ := h h0
    exact .inr ⟨b, o, cap, rfl, h0, hn, h3, h2⟩
  · obtain rfl : n = 0 := by omega
    exact .inl ⟨_, _, rfl, rfl⟩
theorem run_makeMapM {P : Program} {t k e : TypeId} (ht : P.underlying t = some (.map k e)) (n : Int) (w : World) : (Instr.makeMap t (some (.int .i64 n))).run P w = .ok (.map (some w.heap.size)) (w.alloc (.map #[] 0)) := by
  simp [Instr.makeMap, run_underlying ht, asInt, Result.andThen]
  try rfl
theorem zPtrN (w : World) : (zeroValue 61).run Try.prog w = .ok (.pointer none) w := by kernel_rfl
theorem wfI {x : Int} (h : IntFit x) : (Lit.int .i64 x).wf = true := WalkArith.wf_i64 (by unfold IntFit at h; omega)
set_option maxRecDepth 100000 in
set_option maxHeartbeats 1000000 in
theorem firstNotes_impl (aa : Option Addr) (n cap b o : Nat) (g : Nat → NoteD) (w : World) (hf : ∀ i, (g i).fit) (hv : NotesAt w aa n cap b o g) (hn6 : n ≤ 1048576) :
    Calls Try.prog 46 #[.slice aa n cap] w fun e w' => ∃ m, e = .returned (.map (some m)) ∧ w.heap.size ≤ m ∧ PtrMap Try.prog w' 3 b o m n (firstS g n) ∧ Below w.heap.size w w' := by
  have HV := Lib.hid hv
  have HF := Lib.hid hf
  clear hv hf
  have hmm := @run_makeMapM Try.prog _ _ _ Try.underlying59
  have m1 := PtrMap.made w Try.prog 3 b o
  go_enter Try.func46, Try.ntmps46
  go_wp2
  go_loopw [11] (fun i wr => ∃ k : Nat, k ≤ n ∧ i = .int .i64 k ∧ Hid (PtrMap Try.prog wr 3 b o w.heap.size k (firstS g k)) ∧ Below w.heap.size w wr) (fun i _ => n - (intOf i).toNat)
  case atStart => exact ⟨0, Nat.zero_le _, rfl, m1, (Below.refl _ _).alloc (Nat.le_refl _) _⟩
  case round =>
    clear m1
    obtain ⟨k, hk, rfl, hm, hb⟩ := hrel
    have hsz := hb.size
    by_cases hlt : k < n
    · obtain ⟨rfl, hcap, hc⟩ := HV.out (by omega)
      have hq := (hc k hlt).belowB hb (hc k hlt).1
      have hwf := wfI (HF.out k).1
      have hlk := hm.out.run kInt Try.underlying59 Try.underlying3 (zPtrN wr) hwf
      have HKEEP := Lib.hid (firstS_keep g (k := k))
      have HNEW := Lib.hid (firstS_new g (k := k))
      have HOTH := Lib.hid (firstS_other g (k := k))
      have HWF := Lib.hid hwf
      obtain ⟨c0, _, _, _, _, _, _⟩ := note_cells hq
      by_cases h0 : 0 ≤ firstS g k (g k).serial
      · obtain ⟨j, hj⟩ : ∃ j : Nat, firstS g k (g k).serial = (j : Int) := ⟨(firstS g k (g k).serial).toNat, by omega⟩
        rw [hj, ptrV_nat] at hlk
        have M := Lib.hid ((hm.out.mono (Nat.le_succ k)).congr (HKEEP.out h0))
        generalize (g k).serial = s at *
        clear hc HV HF hm HKEEP HNEW HOTH h0 hwf hq hj
        go_wp2
        go_roundw
        case rel => exact ⟨k + 1, by omega, by go_num, M, hb⟩
        case measure => simp [intOf]; omega
      · rw [ptrV_neg (by omega)] at hlk
        have HN1 := Lib.hid (HNEW.out (by omega))
        clear hc HV HF HKEEP HNEW h0 hwf hq
        generalize (g k).serial = s at *
        go_wp2_with (at_mapUpdate; refine wpList_ptrPut rfl (.tmp 24) (.tmp 28) (.tmp 29) 59 rfl 3 61 kInt Try.underlying59 Try.underlying3 b o w.heap.size k (firstS g k) (firstS g (k + 1)) rfl hm.out (by unfold maxLen; omega) s k rfl (ptrV_nat b o k).symm HWF.out (by omega) HN1.out HOTH.out ?_; intro w3 m3 g3)
        go_roundw
        case rel => exact ⟨k + 1, by omega, by go_num, m3, hb.grown g3 hb.size (fun q hq => by cases hq; omega)⟩
        case measure => simp [intOf]; omega
    · obtain rfl : k = n := by omega
      go_wp2
      go_ret
      exact ⟨_, rfl, Nat.le_refl _, hm.out, hb⟩
end Go.Proofs.Ytlahjaakegdigaa
