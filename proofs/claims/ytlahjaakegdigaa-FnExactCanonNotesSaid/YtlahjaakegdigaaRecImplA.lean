/-
  Records: the program's SerialOf, UpTo, SameNotes, NoteOk.
-/
import Derived.Test.YtlahjaakegdigaaApply
import Derived.Test.YtlahjaakegdigaaGamesImpl
set_option linter.unusedVariables false
namespace Go.Proofs.Ytlahjaakegdigaa
open Go.RowKit

theorem serialOf_impl (v : Value) (n : Nat) (g : Nat → NoteD) (gm : Int) (w : World) (hv : NoteRow w v n g) :
    Calls Try.prog 31 #[v, .int .i64 gm] w fun e w' => e = .returned (.int .i64 (serialN g gm n)) ∧ Below w.heap.size w w' := by
  obtain ⟨aa, cap, rfl, hn, hc⟩ := hv.form
  have HV := Lib.hid hc
  clear hc hv
  have h0 : serialN g gm 0 = 0 := rfl
  go_enter Try.func31, Try.ntmps31
  go_wp2
  go_loopw [5, 10] (fun s i wr => ∃ k : Nat, k ≤ n ∧ i = .int .i64 k ∧ (∃ m : Int, s = .int .i64 m ∧ Hid (m = serialN g gm k)) ∧ Below w.heap.size w wr) (fun _ i _ => n - (intOf i).toNat)
  case atStart => exact ⟨0, Nat.zero_le _, rfl, ⟨0, rfl, rfl⟩, Below.refl _ _⟩
  case round =>
    obtain ⟨k, hk, rfl, ⟨m, rfl, hm⟩, hb⟩ := hrel
    by_cases hlt : k < n
    · obtain ⟨b, off, rfl, hcap, hc⟩ := HV.out (by omega)
      have hq := (hc k hlt).belowB hb (hc k hlt).1
      have HS : Hid (serialN g gm (k + 1) = if (g k).game = gm ∧ serialN g gm k < (g k).serial then (g k).serial else serialN g gm k) := rfl
      generalize hx : g k = x at *
      obtain ⟨c0, c1, c2, c3, c4, c5, c6⟩ := note_cells hq
      have hsz := hb.size
      have hb2 := hb.alloc hsz (.cells #[.int .i64 x.serial, .int .i64 x.game, .int .i64 x.res.home, .int .i64 x.res.away, .int .i64 x.res.hg, .int .i64 x.res.ag, .int .i64 x.res.st] 33)
      clear hc HV hq hx h0
      by_cases h1 : x.game = gm
      · have g1 : (x.game == gm) = true := by simpa using h1
        by_cases h2 : m < x.serial
        · have g2 : decide (m < x.serial) = true := decide_eq_true h2
          have g3 : decide (m ≤ x.serial) = true := decide_eq_true (by omega)
          have HX := Lib.hid (show x.serial = serialN g gm (k + 1) by rw [HS.out, if_pos ⟨h1, by rw [← hm.out]; exact h2⟩])
          have hmax : max m x.serial = x.serial := by omega
          have H1 := Lib.hid h1
          have H2 := Lib.hid h2
          clear HS hm h1 h2
          go_wp2
          go_roundw
          case rel => exact ⟨k + 1, by omega, by go_num, ⟨_, rfl, Lib.hid (by first | exact HX.out | (rw [if_pos H2.out]; exact HX.out))⟩, hb2⟩
          case measure => simp [intOf]; omega
        · have g2 : decide (m < x.serial) = false := decide_eq_false h2
          have HX := Lib.hid (show m = serialN g gm (k + 1) by rw [HS.out, if_neg (fun h => h2 (by rw [hm.out]; exact h.2))]; exact hm.out)
          have hmax : max m x.serial = m := by omega
          have H1 := Lib.hid h1
          clear HS hm h1 h2
          go_wp2
          go_roundw
          case rel => exact ⟨k + 1, by omega, by go_num, ⟨_, rfl, HX.out⟩, hb2⟩
          case measure => simp [intOf]; omega
      · have g1 : (x.game == gm) = false := beq_eq_false_iff_ne.2 h1
        have HX := Lib.hid (show m = serialN g gm (k + 1) by rw [HS.out, if_neg (fun h => h1 h.1)]; exact hm.out)
        clear HS hm h1
        go_wp2
        go_roundw
        case rel => exact ⟨k + 1, by omega, by go_num, ⟨_, rfl, HX.out⟩, hb2⟩
        case measure => simp [intOf]; omega
    · obtain rfl : k = n := by omega
      obtain rfl := hm.out
      clear h0
      go_wp2
      go_ret
      exact ⟨rfl, hb⟩
set_option maxHeartbeats 1000000 in
theorem upTo_impl (v : Value) (n : Nat) (g : Nat → NoteD) (s : Int) (w : World) (hv : NoteRow w v n g) (hn6 : n ≤ 1048576) :
    Calls Try.prog 35 #[v, .int .i64 s] w (NotesL w (upL g s n)) := by
  obtain ⟨i0, hi, hz0, hz1, hz2⟩ := info_parts Try.infoNote
  obtain ⟨aa, cap, rfl, hn, hc⟩ := hv.form
  have HV := Lib.hid hc
  clear hc hv
  go_enter Try.func35, Try.ntmps35
  go_wp2
  go_loopw [5, 10] (fun out i wr => ∃ (k : Nat) (L : List NoteD), k ≤ n ∧ i = .int .i64 k ∧ Hid (L = upL g s k) ∧ L.length ≤ k ∧ Hid (wr.ownsRow w.heap.size 33 7 out L.length (L.flatMap NoteD.cells)) ∧ Hid (Below w.heap.size w wr)) (fun _ i _ => n - (intOf i).toNat)
  case atStart => exact ⟨0, [], Nat.zero_le _, rfl, rfl, Nat.zero_le _, Lib.hid (World.ownsRow_nil _ _ _ _), Below.refl _ _⟩
  case round =>
    obtain ⟨k, L, hk, rfl, hL, hLk, hown, hb⟩ := hrel
    by_cases hlt : k < n
    · obtain ⟨b, off, rfl, hcap, hc⟩ := HV.out (by omega)
      have hq := (hc k hlt).belowB hb.out (hc k hlt).1
      have HY := Lib.hid (fun (h : (g k).serial ≤ s) => show L ++ [g k] = upL g s (k + 1) by rw [upL, if_pos h, hL.out])
      have HNo := Lib.hid (fun (h : ¬ (g k).serial ≤ s) => show L = upL g s (k + 1) by rw [upL, if_neg h, hL.out])
      generalize g k = x at *
      obtain ⟨c0, c1, c2, c3, c4, c5, c6⟩ := note_cells hq
      have hsz := hb.out.size
      have hg0 : Below wr.heap.size wr (wr.alloc (.cells #[.int .i64 x.serial, .int .i64 x.game, .int .i64 x.res.home, .int .i64 x.res.away, .int .i64 x.res.hg, .int .i64 x.res.ag, .int .i64 x.res.st] 33)) := (Below.refl _ _).alloc (Nat.le_refl _) _
      have hown2 := Lib.hid (hown.out.alloc (.cells #[.int .i64 x.serial, .int .i64 x.game, .int .i64 x.res.home, .int .i64 x.res.away, .int .i64 x.res.hg, .int .i64 x.res.ag, .int .i64 x.res.st] 33))
      have hb2 := Lib.hid (hb.out.trans (hg0.mono hsz))
      have hsz2 := hb2.out.size
      clear hc HV hq hL hg0 hown hb
      by_cases h0 : x.serial ≤ s
      · have HYY := Lib.hid (HY.out h0)
        have g1 : decide (x.serial ≤ s) = true := decide_eq_true h0
        clear HY HNo h0
        go_wp2_with (at_builtin; refine wpList_pushL rfl (.tmp 18) (.tmp 20) 40 rfl w.heap.size 33 Try.underlying40 hi hz0 hz1 hz2 rfl (by decide) x.cells rfl (by intro u hu; simp [NoteD.cells] at hu; rcases hu with rfl | rfl | rfl | rfl | rfl | rfl | rfl <;> rfl) rfl (by show Value.slice (some ⟨_, 0, none⟩) 1 1 = _; simp) hown2.out (by unfold maxLen; omega) (by omega) hsz2 ?_; intro gg cc5 w5 o5 g5 at5 lt5)
        go_roundw
        case rel => exact ⟨k + 1, L ++ [x], by omega, by go_num, HYY.out, by simp; omega, Lib.hid (by simpa using o5), Lib.hid (hb2.out.grown g5 hsz2 (fun q hq => (hown2.out.lt q hq).1))⟩
        case measure => simp [intOf]; omega
      · have HNN := Lib.hid (HNo.out h0)
        have g1 : decide (x.serial ≤ s) = false := decide_eq_false h0
        clear HY HNo h0
        go_wp2
        go_roundw
        case rel => exact ⟨k + 1, L, by omega, by go_num, HNN.out, by omega, hown2.out, hb2.out⟩
        case measure => simp [intOf]; omega
    · obtain rfl : k = n := by omega
      go_wp2
      go_ret
      exact ⟨_, rfl, by have := hown.out; rw [← hL.out]; exact this, hb.out⟩
theorem noteOk_impl (n : Int) (v : Value) (m : Nat) (g : Nat → GameD) (serial game home away hg ag st : Int) (R : Bool) (w : World) (hR : R = true ↔ seasonP n m g ∧ noteP n m g ⟨serial, game, ⟨home, away, hg, ag, st⟩⟩) (hv : GameRow w v m g) :
    Calls Try.prog 15 #[.int .i64 n, v, .agg #[.int .i64 serial, .int .i64 game, .int .i64 home, .int .i64 away, .int .i64 hg, .int .i64 ag, .int .i64 st]] w fun e w' => e = .returned (.bool R) ∧ Below w.heap.size w w' := by
  obtain ⟨aa, cap, rfl, hn, hc⟩ := hv.form
  have HV := Lib.hid hc
  have HG := Lib.hid hv
  obtain ⟨r, hr⟩ := bool_ex (seasonP n m g)
  have C := Lib.hid (fun w1 h1 => seasonOk_impl n (.slice aa m cap) m g r w1 hr h1)
  have HRR := Lib.hid hr
  have HN : Hid (¬ (seasonP n m g ∧ noteP n m g ⟨serial, game, ⟨home, away, hg, ag, st⟩⟩) → R = false) := fun h => bool_not hR h
  have HY : Hid (seasonP n m g ∧ noteP n m g ⟨serial, game, ⟨home, away, hg, ag, st⟩⟩ → R = true) := fun h => hR.2 h
  clear hR hr hv hc
  go_enter Try.func15, Try.ntmps15
  go_wp2_with fail
  refine (C.out _ (HG.out.below ((Below.refl _ w).alloc (Nat.le_refl _) _) (Nat.le_refl _))).mono ?_
  rintro e w2 ⟨rfl, b2⟩
  have bx2 := Lib.hid (BoxN.made b2 (B := w.heap.size) rfl)
  have b3 := Lib.hid (below_prev b2)
  have hz2 := b3.out.size
  have HG2 := Lib.hid (HG.out.below b3.out (Nat.le_refl _))
  clear b2 C HG
  cases r with
  | false =>
    obtain rfl := HN.out fun h => by have := HRR.out.2 h.1; cases this
    clear HN HY HRR HV bx2 HG2
    go_wp2
    go_ret
    exact ⟨rfl, b3.out⟩
  | true =>
  have HSE := Lib.hid (HRR.out.1 rfl)
  have l2 := bx2.out.1
  have d0 := bx2.out.2 0 _ rfl
  have d1 := bx2.out.2 1 _ rfl
  have d2 := bx2.out.2 2 _ rfl
  have d3 := bx2.out.2 3 _ rfl
  have d4 := bx2.out.2 4 _ rfl
  have d5 := bx2.out.2 5 _ rfl
  have d6 := bx2.out.2 6 _ rfl
  clear HRR
  by_cases h1 : 1 ≤ serial ∧ serial ≤ 100000 ∧ 0 ≤ game ∧ game < (m : Int)
  rotate_left
  · obtain rfl := HN.out fun h => h1 (by have h5 : 1 ≤ serial ∧ serial ≤ 100000 := h.2.1; have h6 : 0 ≤ game ∧ game ≤ (m : Int) - 1 := h.2.2.1; omega)
    clear HN HY HV bx2 HG2 HSE
    by_cases e1 : serial < 1
    · have g1 : decide (serial < 1) = true := decide_eq_true e1
      go_wp2
      go_ret
      exact ⟨rfl, b3.out⟩
    have g1 : decide (serial < 1) = false := decide_eq_false e1
    by_cases e2 : 100000 < serial
    · have g2 : decide (100000 < serial) = true := decide_eq_true e2
      go_wp2
      go_ret
      exact ⟨rfl, b3.out⟩
    have g2 : decide (100000 < serial) = false := decide_eq_false e2
    by_cases e3 : game < 0
    · have g3 : decide (game < 0) = true := decide_eq_true e3
      go_wp2
      go_ret
      exact ⟨rfl, b3.out⟩
    have g3 : decide (game < 0) = false := decide_eq_false e3
    have g4 : decide ((m : Int) ≤ game) = true := decide_eq_true (by omega)
    go_wp2
    go_ret
    exact ⟨rfl, b3.out⟩
  obtain ⟨j, rfl⟩ : ∃ j : Nat, game = (j : Int) := ⟨game.toNat, by omega⟩
  have hj : j < m := by omega
  have g1 : decide (serial < 1) = false := decide_eq_false (by omega)
  have g2 : decide (100000 < serial) = false := decide_eq_false (by omega)
  have g3 : decide ((j : Int) < 0) = false := decide_eq_false (by omega)
  have g4 : decide ((m : Int) ≤ (j : Int)) = false := decide_eq_false (by omega)
  have g4' : decide (m ≤ j) = false := decide_eq_false (by omega)
  obtain ⟨b, off, rfl, hcap, hc⟩ := HV.out (by omega)
  have hq := (hc j hj).belowB b3.out (hc j hj).1
  have hqlt := (hc j hj).1
  obtain ⟨y, hy⟩ : ∃ y, g j = y := ⟨_, rfl⟩
  rw [hy] at hq
  have HYJ : Hid (g ((j : Int)).toNat = y) := Lib.hid (by simpa using hy)
  obtain ⟨c0, c1, c2, c3, c4⟩ := game_cells hq
  obtain ⟨rg, hrg⟩ := bool_ex (gameP n ⟨home, away, hg, ag, st⟩)
  have CG := Lib.hid (fun w1 => gameOk_impl n home away hg ag st rg w1 hrg)
  have HRG := Lib.hid hrg
  have CF := Lib.hid (fun w1 => isFixture_impl home away hg ag st y.home y.away w1)
  have CO := Lib.hid (fun w1 => isOpen_impl home away hg ag st w1)
  have b4 := Lib.hid (b3.out.alloc hz2 (.cells #[.int .i64 y.home, .int .i64 y.away, .int .i64 y.hg, .int .i64 y.ag, .int .i64 y.st] 31))
  have hg0 : Below w2.heap.size w2 (w2.alloc (.cells #[.int .i64 y.home, .int .i64 y.away, .int .i64 y.hg, .int .i64 y.ag, .int .i64 y.st] 31)) := (Below.refl _ _).alloc (Nat.le_refl _) _
  have H1 := Lib.hid h1
  clear HV hc hq hy h1 hrg HG2
  go_wp2_with fail
  refine (CG.out _).mono ?_
  rintro e w3 ⟨rfl, b5⟩
  have by3 := Lib.hid (BoxN.made b5 (B := w2.heap.size) rfl)
  have b6 := below_prev b5
  have bx3 := Lib.hid (bx2.out.below b6)
  have HB3 := Lib.hid (b3.out.trans (b6.mono hz2))
  have hz3 := HB3.out.size
  clear c0 c1 c2 c3 c4 b5 b6 bx2 b3 b4 hg0 CG d0 d1 d2 d3 d4 d5 d6
  cases rg with
  | false =>
    obtain rfl := HN.out fun h => by have := HRG.out.2 h.2.2.2.1; cases this
    clear HN HY HRG bx3 by3 HSE H1 CF CO HYJ
    go_wp2
    go_ret
    exact ⟨rfl, HB3.out⟩
  | true =>
  have HGP := Lib.hid (HRG.out.1 rfl)
  have l3 := bx3.out.1
  have m3 := by3.out.1
  have d2 := bx3.out.2 2 _ rfl
  have d3 := bx3.out.2 3 _ rfl
  have d4 := bx3.out.2 4 _ rfl
  have d5 := bx3.out.2 5 _ rfl
  have d6 := bx3.out.2 6 _ rfl
  have e0 := by3.out.2 0 _ rfl
  have e1 := by3.out.2 1 _ rfl
  obtain ⟨rf, hrf⟩ : ∃ rf, rf = (home == y.home && away == y.away) := ⟨_, rfl⟩
  rw [← hrf] at CF
  have HRF := Lib.hid hrf
  clear hrf HRG
  go_wp2_with fail
  refine (CF.out _).mono ?_
  rintro e w4 ⟨rfl, b7⟩
  have bx4 := Lib.hid (bx3.out.below b7)
  have HB4 := Lib.hid (HB3.out.trans (b7.mono hz3))
  have hz4 := HB4.out.size
  clear d2 d3 d4 d5 d6 e0 e1 bx3 by3 HB3 b7 CF
  cases rf with
  | false =>
    obtain rfl := HN.out fun h => by
      have h5 := h.2.2.2.2.2
      rw [show (⟨serial, (j : Int), ⟨home, away, hg, ag, st⟩⟩ : NoteD).game = (j : Int) from rfl, HYJ.out] at h5
      have := HRF.out
      rw [show home = y.home from h5.1, show away = y.away from h5.2] at this
      simp at this
    clear HN HY bx4 HSE H1 CO HYJ HRF HGP
    go_wp2
    go_ret
    exact ⟨rfl, HB4.out⟩
  | true =>
  have l4 := bx4.out.1
  have d2 := bx4.out.2 2 _ rfl
  have d3 := bx4.out.2 3 _ rfl
  have d4 := bx4.out.2 4 _ rfl
  have d5 := bx4.out.2 5 _ rfl
  have d6 := bx4.out.2 6 _ rfl
  obtain ⟨ro, hro⟩ : ∃ ro, ro = (st == 0) := ⟨_, rfl⟩
  rw [← hro] at CO
  have HRO := Lib.hid hro
  clear hro
  go_wp2_with fail
  refine (CO.out _).mono ?_
  rintro e w5 ⟨rfl, b8⟩
  have HB5 := Lib.hid (HB4.out.trans (b8.mono hz4))
  clear d2 d3 d4 d5 d6 bx4 HB4 b8 CO
  cases ro with
  | true =>
    obtain rfl := HN.out fun h => by
      have h5 := h.2.2.2.2.1
      have := HRO.out.symm
      simp at this
      exact h5 this
    clear HN HY HSE H1 HYJ HRF HGP HRO
    go_wp2
    go_ret
    exact ⟨rfl, HB5.out⟩
  | false =>
    obtain rfl := HY.out ⟨HSE.out, ⟨H1.out.1, H1.out.2.1⟩, ⟨H1.out.2.2.1, by have := H1.out.2.2.2; show (j : Int) ≤ _; omega⟩, HGP.out, by
      have := HRO.out.symm
      simp at this
      exact this, by
      have := HRF.out.symm
      simp at this
      show home = (g ((j : Int)).toNat).home
      rw [HYJ.out]; exact this.1, by
      have := HRF.out.symm
      simp at this
      show away = (g ((j : Int)).toNat).away
      rw [HYJ.out]; exact this.2⟩
    clear HN HY HSE H1 HYJ HRF HGP HRO
    go_wp2
    go_ret
    exact ⟨rfl, HB5.out⟩
end Go.Proofs.Ytlahjaakegdigaa
