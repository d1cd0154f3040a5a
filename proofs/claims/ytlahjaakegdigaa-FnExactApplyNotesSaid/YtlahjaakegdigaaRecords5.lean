/-
  Records: the model's UpTo, Corrections.
-/
import Derived.Test.YtlahjaakegdigaaRecords4
import Derived.Test.YtlahjaakegdigaaHasMem
set_option linter.unusedVariables false
namespace Go.Proofs.Ytlahjaakegdigaa
open Go.RowKit

/-- the call returns the notes L in memory of its own -/
def NotesL (w : World) (L : List NoteD) (e : Ending) (w' : World) : Prop :=
  ∃ v, e = .returned v ∧ w'.ownsRow w.heap.size 33 7 v L.length (L.flatMap NoteD.cells) ∧ Below w.heap.size w w'
/-- note number i of a list -/
def getN' (L : List NoteD) (i : Nat) : NoteD := L.getD i default
theorem flat_len (L : List NoteD) : (L.flatMap NoteD.cells).length = L.length * 7 := by
  induction L with
  | nil => rfl
  | cons x L ih => simp only [List.flatMap_cons, List.length_append, ih, List.length_cons, NoteD.len]; omega
theorem notes_cells (L : List NoteD) : RecCells 7 L.length (L.flatMap NoteD.cells) fun i => (getN' L i).cells := by
  induction L with
  | nil => exact RecCells.nil
  | cons x L ih =>
    intro i hi j u hu
    rw [List.flatMap_cons]
    have hj : j < 7 := by have := (List.getElem?_eq_some_iff.1 hu).1; simpa [NoteD.len] using this
    cases i with
    | zero =>
      rw [List.getElem?_append_left (by rw [NoteD.len]; omega)]
      simpa [getN'] using hu
    | succ i =>
      rw [List.getElem?_append_right (by rw [NoteD.len]; omega), NoteD.len, show (i + 1) * 7 + j - 7 = i * 7 + j by omega]
      simp only [List.length_cons] at hi
      exact ih i (by omega) j u (by simpa [getN'] using hu)
theorem NotesL.made {w w' : World} {L : List NoteD} {e : Ending} (h : NotesL w L e w') (hl : L.length ≤ 9223372036854775807) :
    ∃ v, e = .returned v ∧ NoteRow w' v L.length (getN' L) ∧ (∃ xs, w'.ownsRow w.heap.size 33 7 v L.length xs) ∧ Below w.heap.size w w' := by
  obtain ⟨v, h1, h2, h3⟩ := h
  exact ⟨v, h1, NoteRow.of_owns h2 hl (notes_cells L), ⟨_, h2⟩, h3⟩
/-- the notes, of the first k, with a serial number up to s -/
def upL (g : Nat → NoteD) (s : Int) : Nat → List NoteD
  | 0 => []
  | k + 1 => if (g k).serial ≤ s then upL g s k ++ [g k] else upL g s k
set_option maxHeartbeats 1000000 in
theorem upTo_spec (v : Value) (n : Nat) (g : Nat → NoteD) (s : Int) (w : World) (hv : NoteRow w v n g) (hn6 : n ≤ 1048576) :
    Calls Try.prog 34 #[v, .int .i64 s] w (NotesL w (upL g s n)) := by
  obtain ⟨i0, hi, hz0, hz1, hz2⟩ := info_parts Try.infoNote
  obtain ⟨aa, cap, rfl, hn, hc⟩ := hv.form
  have HV := Lib.hid hc
  clear hc hv
  have o0 : (w.alloc (.cells #[] 33)).ownsRow w.heap.size 33 7 (.slice (some ⟨w.heap.size, 0, none⟩) 0 0) 0 [] := World.ownsRow_lit w #[] 0 (Nat.le_refl _) (by decide) rfl
  go_enter Try.func34, Try.ntmps34
  go_wp2
  go_loopw [5, 11] (fun out i wr => ∃ (k : Nat) (L : List NoteD), k ≤ n ∧ i = .int .i64 k ∧ Hid (L = upL g s k) ∧ L.length ≤ k ∧ Hid (wr.ownsRow w.heap.size 33 7 out L.length (L.flatMap NoteD.cells)) ∧ Hid (Below w.heap.size w wr)) (fun _ i _ => n - (intOf i).toNat)
  case atStart => exact ⟨0, [], Nat.zero_le _, rfl, rfl, Nat.zero_le _, o0, (Below.refl _ _).alloc (Nat.le_refl _) _⟩
  case round =>
    clear o0
    obtain ⟨k, L, hk, rfl, hL, hLk, hown, hb⟩ := hrel
    by_cases hlt : k < n
    · obtain ⟨b, off, rfl, hcap, hc⟩ := HV.out (by omega)
      have hq := (hc k hlt).belowB hb.out (hc k hlt).1
      have HY := Lib.hid (fun (h : (g k).serial ≤ s) => show L ++ [g k] = upL g s (k + 1) by rw [upL, if_pos h, hL.out])
      have HNo := Lib.hid (fun (h : ¬ (g k).serial ≤ s) => show L = upL g s (k + 1) by rw [upL, if_neg h, hL.out])
      generalize g k = x at *
      obtain ⟨c0, c1, c2, c3, c4, c5, c6⟩ := note_cells hq
      have hsz := hb.out.size
      have hg0 : Below wr.heap.size wr (wr.alloc (.cells #[.int .i64 x.serial, .int .i64 x.game, .int .i64 x.res.home, .int .i64 x.res.away, .int .i64 x.res.hg, .int .i64 x.res.ag, .int .i64 x.res.st] 33)) := (Below.refl _ _).alloc (Nat.le_refl _) _
      have bx := Lib.hid (BoxN.made (u := wr) (cs := #[.int .i64 x.serial, .int .i64 x.game, .int .i64 x.res.home, .int .i64 x.res.away, .int .i64 x.res.hg, .int .i64 x.res.ag, .int .i64 x.res.st]) (t := 33) (Below.refl _ _) rfl)
      have hown2 := Lib.hid (hown.out.alloc (.cells #[.int .i64 x.serial, .int .i64 x.game, .int .i64 x.res.home, .int .i64 x.res.away, .int .i64 x.res.hg, .int .i64 x.res.ag, .int .i64 x.res.st] 33))
      have hb2 := Lib.hid (hb.out.trans (hg0.mono hsz))
      have hsz2 := hb2.out.size
      clear hc HV hq hL hg0 hown hb
      by_cases h0 : x.serial ≤ s
      · have HYY := Lib.hid (HY.out h0)
        have g1 : decide (x.serial ≤ s) = true := decide_eq_true h0
        clear HY HNo h0
        go_wp2_with (at_builtin; refine wpList_pushL rfl (.tmp 19) (.tmp 21) 40 rfl w.heap.size 33 Try.underlying40 hi hz0 hz1 hz2 rfl (by decide) x.cells rfl (by intro u hu; simp [NoteD.cells] at hu; rcases hu with rfl | rfl | rfl | rfl | rfl | rfl | rfl <;> rfl) rfl (by show Value.slice (some ⟨_, 0, none⟩) 1 1 = _; simp) hown2.out (by unfold maxLen; omega) (by omega) hsz2 ?_; intro gg cc5 w5 o5 g5 at5 lt5)
        go_roundw
        case rel => exact ⟨k + 1, L ++ [x], by omega, by go_num, HYY.out, by simp; omega, Lib.hid (by simpa using o5), Lib.hid (hb2.out.grown g5 hsz2 (fun q hq => (hown2.out.lt q hq).1))⟩
        case measure => simp [intOf]; omega
      · have HNN := Lib.hid (HNo.out h0)
        have g1 : decide (x.serial ≤ s) = false := decide_eq_false h0
        clear HY HNo h0
        go_wp2
        go_roundw
        case rel => exact ⟨k + 1, L, by omega, by go_num, HNN.out, by omega, hown2.out, hb2.out⟩
        case measure => simp [intOf]; omega
    · obtain rfl : k = n := by omega
      go_wp2
      go_ret
      exact ⟨_, rfl, by have := hown.out; rw [← hL.out]; exact this, hb.out⟩
/-- the serial numbers, of the first k notes, that stand on a game -/
def seenL (g : Nat → NoteD) (gm : Int) : Nat → List Int
  | 0 => []
  | k + 1 => if (g k).game = gm ∧ ¬ (g k).serial ∈ seenL g gm k then seenL g gm k ++ [(g k).serial] else seenL g gm k
/-- how often the result of a game was corrected -/
def corrN (g : Nat → NoteD) (gm : Int) (n : Nat) : Int := if 0 < ((seenL g gm n).length : Int) - 1 then ((seenL g gm n).length : Int) - 1 else 0
set_option maxHeartbeats 1000000 in
theorem corrections_spec (v : Value) (n : Nat) (g : Nat → NoteD) (gm : Int) (w : World) (hv : NoteRow w v n g) (hn6 : n ≤ 1048576) :
    Calls Try.prog 32 #[v, .int .i64 gm] w fun e w' => e = .returned (.int .i64 (corrN g gm n)) ∧ Below w.heap.size w w' := by
  obtain ⟨i0, hi, hz0, hz1, hz2⟩ := info_parts Try.infoI
  obtain ⟨aa, cap, rfl, hn, hc⟩ := hv.form
  have HV := Lib.hid hc
  clear hc hv
  generalize hR : corrN g gm n = R
  have HR := Lib.hid hR
  clear hR
  have o0 : (w.alloc (.cells #[] 3)).ownsRow w.heap.size 3 1 (.slice (some ⟨w.heap.size, 0, none⟩) 0 0) 0 [] := World.ownsRow_lit w #[] 0 (Nat.le_refl _) (by decide) rfl
  go_enter Try.func32, Try.ntmps32
  go_wp2
  go_loopw [5, 11] (fun out i wr => ∃ (k : Nat) (L : List Int), k ≤ n ∧ i = .int .i64 k ∧ Hid (L = seenL g gm k) ∧ L.length ≤ k ∧ Hid (wr.ownsRow w.heap.size 3 1 out L.length (L.map (Value.int .i64))) ∧ Hid (Below w.heap.size w wr)) (fun _ i _ => n - (intOf i).toNat)
  case atStart => exact ⟨0, [], Nat.zero_le _, rfl, rfl, Nat.zero_le _, o0, (Below.refl _ _).alloc (Nat.le_refl _) _⟩
  case round =>
    clear o0
    obtain ⟨k, L, hk, rfl, hL, hLk, hown, hb⟩ := hrel
    by_cases hlt : k < n
    · obtain ⟨b, off, rfl, hcap, hc⟩ := HV.out (by omega)
      have hq := (hc k hlt).belowB hb.out (hc k hlt).1
      have HY := Lib.hid (fun (h : (g k).game = gm ∧ ¬ (g k).serial ∈ L) => show L ++ [(g k).serial] = seenL g gm (k + 1) by rw [seenL, ← hL.out, if_pos h])
      have HNo := Lib.hid (fun (h : ¬ ((g k).game = gm ∧ ¬ (g k).serial ∈ L)) => show L = seenL g gm (k + 1) by rw [seenL, ← hL.out, if_neg h])
      generalize g k = x at *
      obtain ⟨c0, c1, c2, c3, c4, c5, c6⟩ := note_cells hq
      have hsz := hb.out.size
      have hg0 : Below wr.heap.size wr (wr.alloc (.cells #[.int .i64 x.serial, .int .i64 x.game, .int .i64 x.res.home, .int .i64 x.res.away, .int .i64 x.res.hg, .int .i64 x.res.ag, .int .i64 x.res.st] 33)) := (Below.refl _ _).alloc (Nat.le_refl _) _
      have hown2 := Lib.hid (hown.out.alloc (.cells #[.int .i64 x.serial, .int .i64 x.game, .int .i64 x.res.home, .int .i64 x.res.away, .int .i64 x.res.hg, .int .i64 x.res.ag, .int .i64 x.res.st] 33))
      have hb2 := Lib.hid (hb.out.trans (hg0.mono hsz))
      have hsz2 := hb2.out.size
      have LR := Lib.hid (IntRow.of_list hown2.out (by omega))
      clear hc HV hq hL hg0 hown hb
      by_cases h0 : x.game = gm
      · have g1 : (x.game == gm) = true := by simpa using h0
        by_cases h1 : x.serial ∈ L
        · have HNN := Lib.hid (HNo.out fun h => h.2 h1)
          have hp : hasP (getI L) x.serial L.length := (hasP_mem _ _).2 h1
          have H0 := Lib.hid h0
          clear HY HNo h0 h1
          go_wp2_with (go_at_call 52; refine (l02Has_yes _ _ _ _ _ LR.out hp).mono ?_; rintro e w' ⟨rfl, rfl⟩)
          go_roundw
          case rel => exact ⟨k + 1, L, by omega, by go_num, HNN.out, by omega, hown2.out, hb2.out⟩
          case measure => simp [intOf]; omega
        · have HYY := Lib.hid (HY.out ⟨h0, h1⟩)
          have hp : ¬ hasP (getI L) x.serial L.length := fun h => h1 ((hasP_mem _ _).1 h)
          have H0 := Lib.hid h0
          clear HY HNo h0 h1
          go_wp2_with (first | (go_at_call 52; refine (l02Has_no _ _ _ _ _ LR.out hp).mono ?_; rintro e w' ⟨rfl, rfl⟩) | (at_builtin; refine wpList_pushL rfl (.tmp 26) (.tmp 29) 63 rfl w.heap.size 3 Try.underlying63 hi hz0 hz1 hz2 rfl (by decide) [.int .i64 x.serial] rfl (by intro u hu; simp at hu; subst hu; rfl) rfl (by show Value.slice (some ⟨_, 0, none⟩) 1 1 = _; simp) hown2.out (by unfold maxLen; omega) (by omega) hsz2 ?_; intro gg cc5 w5 o5 g5 at5 lt5))
          go_roundw
          case rel => exact ⟨k + 1, L ++ [x.serial], by omega, by go_num, HYY.out, by simp; omega, Lib.hid (by simpa using o5), Lib.hid (hb2.out.grown g5 hsz2 (fun q hq => (hown2.out.lt q hq).1))⟩
          case measure => simp [intOf]; omega
      · have HNN := Lib.hid (HNo.out fun h => h0 h.1)
        have g1 : (x.game == gm) = false := beq_eq_false_iff_ne.2 h0
        clear HY HNo h0
        go_wp2
        go_roundw
        case rel => exact ⟨k + 1, L, by omega, by go_num, HNN.out, by omega, hown2.out, hb2.out⟩
        case measure => simp [intOf]; omega
    · obtain rfl : k = n := by omega
      have hR := HR.out
      unfold corrN at hR
      rw [← hL.out] at hR
      obtain ⟨a5, c5, he5⟩ := owns_form hown.out
      subst he5
      by_cases h1 : 0 < (L.length : Int) - 1
      · rw [if_pos h1] at hR
        have g1 : decide (0 < (L.length : Int) - 1) = true := decide_eq_true h1
        subst hR
        clear HR hL hown
        go_wp2
        go_ret
        exact ⟨rfl, hb.out⟩
      · rw [if_neg h1] at hR
        have g1 : decide (0 < (L.length : Int) - 1) = false := decide_eq_false h1
        subst hR
        clear HR hL hown
        go_wp2
        go_ret
        exact ⟨rfl, hb.out⟩
end Go.Proofs.Ytlahjaakegdigaa
