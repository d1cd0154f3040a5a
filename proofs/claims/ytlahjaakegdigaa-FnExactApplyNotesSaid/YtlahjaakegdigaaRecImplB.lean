/-
  Records: the program's Corrections, SameNotes.
-/
import Derived.Test.YtlahjaakegdigaaRecImplA
import Derived.Test.YtlahjaakegdigaaMaps
import Derived.Test.YtlahjaakegdigaaFieldMap
set_option linter.unusedVariables false
namespace Go.Proofs.Ytlahjaakegdigaa
open Go.RowKit Go.Maps

/-- D holds just the serial numbers that stand on a game -/
def SeenD (g : Nat → NoteD) (gm : Int) (k : Nat) (D : DataW Unit) : Prop := (∀ kl, has D kl = true ↔ ∃ s, kl = .int .i64 s ∧ s ∈ seenL g gm k) ∧ size D = (seenL g gm k).length
theorem SeenD.same {g : Nat → NoteD} {gm : Int} {k : Nat} {D : DataW Unit} (h : SeenD g gm k D) (hn : ¬ (g k).game = gm) : SeenD g gm (k + 1) D := by
  have e : seenL g gm (k + 1) = seenL g gm k := by rw [seenL, if_neg (fun h => hn h.1)]
  unfold SeenD
  rw [e]; exact h
theorem SeenD.put {g : Nat → NoteD} {gm : Int} {k : Nat} {D : DataW Unit} {z : DataW Unit} (h : SeenD g gm k D) (ht : Tidy D) (hg : (g k).game = gm) : SeenD g gm (k + 1) (D.put (.int .i64 (g k).serial) z) := by
  have hk : WideAt.IsKeyLit (.int .i64 (g k).serial) := trivial
  have hin : ∀ s, s ∈ seenL g gm (k + 1) ↔ s ∈ seenL g gm k ∨ s = (g k).serial := by
    intro s
    rw [seenL]
    by_cases hm : (g k).serial ∈ seenL g gm k
    · rw [if_neg (fun h => h.2 hm)]
      constructor
      · exact .inl
      · rintro (h | rfl)
        · exact h
        · exact hm
    · rw [if_pos ⟨hg, hm⟩]; simp
  have hmem : has D (.int .i64 (g k).serial) = true ↔ (g k).serial ∈ seenL g gm k := by
    rw [h.1]
    constructor
    · rintro ⟨s, e, hs⟩
      simp only [Lit.int.injEq, true_and] at e
      rw [e]; exact hs
    · exact fun hs => ⟨_, rfl, hs⟩
  refine ⟨fun kl => ?_, ?_⟩
  · by_cases e : kl = .int .i64 (g k).serial
    · subst e
      rw [has_put_same ht.isMap hk]
      exact ⟨fun _ => ⟨_, rfl, (hin _).2 (.inr rfl)⟩, fun _ => rfl⟩
    · rw [has_put_other e, h.1]
      constructor
      · rintro ⟨s, rfl, hs⟩; exact ⟨s, rfl, (hin s).2 (.inl hs)⟩
      · rintro ⟨s, rfl, hs⟩
        rcases (hin s).1 hs with hs | rfl
        · exact ⟨s, rfl, hs⟩
        · exact absurd rfl e
  · rw [size_put ht, h.2, seenL]
    by_cases hm : (g k).serial ∈ seenL g gm k
    · rw [if_pos (hmem.2 hm), if_neg (fun h => h.2 hm)]
    · rw [if_neg (fun e => hm (hmem.1 e)), if_pos ⟨hg, hm⟩]; simp
set_option maxRecDepth 100000 in
set_option maxHeartbeats 1000000 in
theorem corrections_impl (v : Value) (n : Nat) (g : Nat → NoteD) (gm : Int) (w : World) (hf : ∀ i, (g i).fit) (hv : NoteRow w v n g) (hn6 : n ≤ 1048576) :
    Calls Try.prog 33 #[v, .int .i64 gm] w fun e w' => e = .returned (.int .i64 (corrN g gm n)) ∧ Below w.heap.size w w' := by
  obtain ⟨aa, cap, rfl, hn, hc⟩ := hv.form
  have HV := Lib.hid hc
  have HF := Lib.hid hf
  clear hc hv hf
  generalize hR : corrN g gm n = R
  have HR := Lib.hid hR
  clear hR
  have hmm := @run_makeMap Try.prog
  have m1 : (w.alloc (.map #[] 0)).ownsMap Try.prog 3 (plainElem (H := Unit) Try.prog 4) w.heap.size 0 (.map []) := World.ownsMap_made _ _ _ _
  go_enter Try.func33, Try.ntmps33
  go_wp2
  go_loopw [11] (fun i wr => ∃ (k : Nat) (D : DataW Unit), k ≤ n ∧ i = .int .i64 k ∧ Hid (wr.ownsMap Try.prog 3 (plainElem Try.prog 4) w.heap.size k D) ∧ Hid (SeenD g gm k D) ∧ Below w.heap.size w wr) (fun i _ => n - (intOf i).toNat)
  case atStart => exact ⟨0, _, Nat.zero_le _, rfl, m1, ⟨fun kl => ⟨fun h => by simp [Maps.has_eq] at h, fun ⟨s, _, hs⟩ => by simp [seenL] at hs⟩, rfl⟩, (Below.refl _ _).alloc (Nat.le_refl _) _⟩
  case round =>
    clear m1
    obtain ⟨k, D, hk, rfl, m1, hD, hb⟩ := hrel
    have hsz := hb.size
    by_cases hlt : k < n
    · obtain ⟨b, off, rfl, hcap, hc⟩ := HV.out (by omega)
      have hq := (hc k hlt).belowB hb (hc k hlt).1
      have hfk := (HF.out k).1
      have HS : Hid (¬ (g k).game = gm → SeenD g gm (k + 1) D) := fun h => hD.out.same h
      have HP : Hid ((g k).game = gm → ∀ z, SeenD g gm (k + 1) (D.put (.int .i64 (g k).serial) z)) := fun h z => hD.out.put (m1.out.tidy kInt) h
      generalize g k = x at *
      have HK : Hid (Go.keyOf Try.prog 3 (.int .i64 x.serial) = some (.int .i64 x.serial)) := keyOf_int_mk Try.underlying3 (WalkArith.wf_i64 (by unfold IntFit at hfk; omega))
      obtain ⟨c0, c1, c2, c3, c4, c5, c6⟩ := note_cells hq
      have M := Lib.hid (m1.out.alloc (.cells #[.int .i64 x.serial, .int .i64 x.game, .int .i64 x.res.home, .int .i64 x.res.away, .int .i64 x.res.hg, .int .i64 x.res.ag, .int .i64 x.res.st] 33))
      have hb2 := hb.alloc hsz (.cells #[.int .i64 x.serial, .int .i64 x.game, .int .i64 x.res.home, .int .i64 x.res.away, .int .i64 x.res.hg, .int .i64 x.res.ag, .int .i64 x.res.st] 33)
      clear hc HV hq HF hD m1 hb hfk
      by_cases h0 : x.game = gm
      · have HPP := Lib.hid (HP.out h0)
        have g1 : (x.game == gm) = true := by simpa using h0
        clear HP HS h0
        go_wp2_with (at_mapUpdate; refine wpList_mapUpdate_own _ rfl (.tmp 19) (.tmp 21) (.const (.bool true)) 70 rfl 3 4 kInt Try.underlying70 _ w.heap.size k D rfl M.out (by unfold maxLen; omega) _ _ _ rfl rfl HK.out (.lit (.bool true)) [] (plainElem_bool Try.underlying4 true) ?_; intro w3 m3 g3)
        go_roundw
        case rel => exact ⟨k + 1, _, by omega, by go_num, m3, Lib.hid (HPP.out _), hb2.grown g3 hb2.size (fun q hq => by cases hq; omega)⟩
        case measure => simp [intOf]; omega
      · have HSS := Lib.hid (HS.out h0)
        have g1 : (x.game == gm) = false := beq_eq_false_iff_ne.2 h0
        clear HP HS h0
        go_wp2
        go_roundw
        case rel => exact ⟨k + 1, D, by omega, by go_num, Lib.hid (M.out.mono (Nat.le_succ k)), HSS.out, hb2⟩
        case measure => simp [intOf]; omega
    · obtain rfl : k = n := by omega
      have hs := hD.out.2
      have hR := HR.out
      unfold corrN at hR
      rw [← hs] at hR
      have M := m1.out
      have hsl := M.size_le
      generalize hS : size D = S at *
      clear HR HV HF hD hs m1
      by_cases h1 : 0 < (S : Int) - 1
      · rw [if_pos h1] at hR
        have g1 : decide (0 < (S : Int) - 1) = true := decide_eq_true h1
        have g2 : decide ((S : Int) - 1 < 0) = false := decide_eq_false (by omega)
        have HSZ := Lib.hid hS
        have hmx : max ((S : Int) - 1) 0 = R := by omega
        have H1 := Lib.hid h1
        have H2 := Lib.hid hR
        clear hR
        go_wp2_with (at_len; refine wpList_len_own _ rfl (.tmp 23) 70 rfl 3 4 Try.underlying70 _ w.heap.size k D rfl M ?_; rw [hS])
        go_ret
        refine ⟨?_, hb⟩
        rw [← H2.out]
        rfl
      · rw [if_neg h1] at hR
        have g1 : decide (0 < (S : Int) - 1) = false := decide_eq_false h1
        have H1 := Lib.hid h1
        have H2 := Lib.hid hR
        have hS2 := Lib.hid hS
        clear hR
        go_wp2_with (at_len; refine wpList_len_own _ rfl (.tmp 23) 70 rfl 3 4 Try.underlying70 _ w.heap.size k D rfl M ?_; rw [hS])
        all_goals go_ret
        all_goals refine ⟨?_, hb⟩
        all_goals have h5 := H1.out
        all_goals rw [← H2.out]
        all_goals first | rfl | (show Ending.returned (.int .i64 ((S : Int) - 1)) = _; congr 2; omega)
theorem noteEq_impl (v v' : Value) (n n' : Nat) (g g' : Nat → NoteD) (R : Bool) (w : World) (hR : R = true ↔ n = n' ∧ ∀ i, i < n → g i = g' i) (hv : NoteRow w v n g) (hv' : NoteRow w v' n' g') :
    Calls Try.prog 53 #[v, v'] w fun e w' => e = .returned (.bool R) ∧ Below w.heap.size w w' := by
  obtain ⟨aa, cap, rfl, hn, hc⟩ := hv.form
  obtain ⟨aa', cap', rfl, hn', hc'⟩ := hv'.form
  have HV := Lib.hid hc
  have HV' := Lib.hid hc'
  have HR := Lib.hid hR
  clear hc hv hc' hv' hR
  by_cases hnn : n = n'
  rotate_left
  · have g0 : ((n : Int) == (n' : Int)) = false := beq_eq_false_iff_ne.2 (by omega)
    have g1 : ((n : Int) != (n' : Int)) = true := bne_iff_ne.2 (by omega)
    obtain rfl := bool_not HR.out (fun h => hnn h.1)
    clear HR
    go_enter Try.func53, Try.ntmps53
    go_wp2
    go_ret
    exact ⟨rfl, Below.refl _ _⟩
  subst hnn
  have HNO : Hid (∀ k, k < n → g k ≠ g' k → R = false) := fun k hk h => bool_not HR.out (fun e => h (e.2 k hk))
  have HYES : Hid ((∀ i, i < n → g i = g' i) → R = true) := fun h => HR.out.2 ⟨rfl, h⟩
  clear HR
  go_enter Try.func53, Try.ntmps53
  go_wp2
  go_loopw [13] (fun i wr => ∃ k : Nat, k ≤ n ∧ i = .int .i64 k ∧ Hid (∀ i, i < k → g i = g' i) ∧ Below w.heap.size w wr) (fun i _ => n - (intOf i).toNat)
  case atStart => exact ⟨0, Nat.zero_le _, rfl, fun i hi => absurd hi (by omega), Below.refl _ _⟩
  case round =>
    obtain ⟨k, hk, rfl, hok, hb⟩ := hrel
    by_cases hlt : k < n
    · obtain ⟨b, off, rfl, hcap, hc⟩ := HV.out (by omega)
      obtain ⟨b', off', rfl, hcap', hc'⟩ := HV'.out (by omega)
      have hq := (hc k hlt).belowB hb (hc k hlt).1
      have hq' := (hc' k hlt).belowB hb (hc' k hlt).1
      have HS : Hid (g k = g' k → ∀ i, i < k + 1 → g i = g' i) := fun h i hi => by
        by_cases hik : i = k
        · subst hik; exact h
        · exact hok.out i (by omega)
      have HN := Lib.hid (HNO.out k hlt)
      generalize g k = x at *
      generalize g' k = y at *
      obtain ⟨c0, c1, c2, c3, c4, c5, c6⟩ := note_cells hq
      obtain ⟨d0, d1, d2, d3, d4, d5, d6⟩ := note_cells hq'
      clear hc HV hc' HV' hq hq' hok HNO HYES
      by_cases hxy : x = y
      · have HX := Lib.hid (HS.out hxy)
        subst hxy
        clear HS HN
        go_wp2
        go_quiet (fail)
        go_wp2
        go_roundw
        case rel => exact ⟨k + 1, by omega, by go_num, HX.out, below_drewN hb _⟩
        case measure => simp [intOf]; omega
      · obtain rfl := HN.out hxy
        have hne := note_ne hxy
        clear HS HN hxy
        rcases hne with f | f | f | f | f | f | f
        all_goals
          go_wp2
          go_quiet (fail)
          go_wp2
          go_ret
          exact ⟨rfl, below_drewN hb _⟩
    · obtain rfl : k = n := by omega
      obtain rfl := HYES.out hok.out
      clear HNO HYES hok
      go_wp2
      go_ret
      exact ⟨rfl, hb⟩
theorem sameNotes_impl (v v' : Value) (n n' : Nat) (g g' : Nat → NoteD) (R : Bool) (w : World) (hR : R = true ↔ n = n' ∧ ∀ i, i < n → g i = g' i) (hv : NoteRow w v n g) (hv' : NoteRow w v' n' g') :
    Calls Try.prog 37 #[v, v'] w fun e w' => e = .returned (.bool R) ∧ Below w.heap.size w w' := by
  have C := Lib.hid (noteEq_impl v v' n n' g g' R w hR hv hv')
  clear hR
  obtain ⟨aa, cap, rfl, hn, _⟩ := hv.form
  obtain ⟨aa', cap', rfl, hn', _⟩ := hv'.form
  clear hv hv'
  go_enter Try.func37, Try.ntmps37
  go_wp2_with fail
  refine C.out.mono ?_
  rintro e w2 ⟨rfl, b⟩
  go_wp2
  go_ret
  exact ⟨rfl, b⟩
end Go.Proofs.Ytlahjaakegdigaa
