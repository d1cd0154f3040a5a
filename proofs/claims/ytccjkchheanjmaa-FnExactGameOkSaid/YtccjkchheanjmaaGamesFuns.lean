/-
  GamesFuns: contracts of the program's games: predicates handed on.
-/
import Derived.Test.YtccjkchheanjmaaGamesBase
set_option linter.unusedVariables false
namespace Go.Proofs.Ytccjkchheanjmaa
open Go.RowKit

theorem goalsOf_impl (home away hg ag st : Int) (w : World) :
    Calls Try.prog 30 #[.agg #[.int .i64 home, .int .i64 away, .int .i64 hg, .int .i64 ag, .int .i64 st]] w fun e w' => e = .returned (.tuple #[.int .i64 (goalsD ⟨home, away, hg, ag, st⟩).1, .int .i64 (goalsD ⟨home, away, hg, ag, st⟩).2.1, .bool (goalsD ⟨home, away, hg, ag, st⟩).2.2]) ∧ Below w.heap.size w w' := by
  have C := Lib.hid (fun w1 => counts_impl hg ag st (goalsD ⟨home, away, hg, ag, st⟩) w1 rfl)
  generalize goalsD ⟨home, away, hg, ag, st⟩ = q at *
  obtain ⟨a, b, ok⟩ := q
  simp only at C ⊢
  go_enter Try.func30, Try.ntmps30
  go_wp2_with fail
  refine (C.out _).mono ?_
  rintro e w1 ⟨rfl, b1⟩
  have b2 := below_prev b1
  go_wp2
  go_ret3
  exact ⟨rfl, b2⟩
theorem outcomeOf_impl (home away hg ag st : Int) (w : World) :
    Calls Try.prog 16 #[.agg #[.int .i64 home, .int .i64 away, .int .i64 hg, .int .i64 ag, .int .i64 st]] w fun e w' => e = .returned (.int .i64 (outcomeD ⟨home, away, hg, ag, st⟩)) ∧ Below w.heap.size w w' := by
  have C := Lib.hid (fun w1 => goalsOf_impl home away hg ag st w1)
  unfold outcomeD
  generalize goalsD ⟨home, away, hg, ag, st⟩ = q at *
  obtain ⟨a, b, ok⟩ := q
  simp only at C ⊢
  cases ok with
  | false =>
    rw [if_neg (by simp)]
    go_enter Try.func16, Try.ntmps16
    go_wp2_with fail
    refine (C.out _).mono ?_
    rintro e w1 ⟨rfl, b1⟩
    have b2 := below_prev b1
    go_wp2
    go_ret
    exact ⟨rfl, b2⟩
  | true =>
    rw [if_pos rfl]
    by_cases h1 : b < a
    · rw [if_pos h1]
      have g1 : decide (b < a) = true := decide_eq_true h1
      go_enter Try.func16, Try.ntmps16
      go_wp2_with fail
      refine (C.out _).mono ?_
      rintro e w1 ⟨rfl, b1⟩
      have b2 := below_prev b1
      go_wp2
      go_ret
      exact ⟨rfl, b2⟩
    rw [if_neg h1]
    have g1 : decide (b < a) = false := decide_eq_false h1
    by_cases h2 : a = b
    · rw [if_pos h2]
      have g2 : decide (a < b) = false := decide_eq_false (by omega)
      have HH := Lib.hid h2
      clear h2 h1
      go_enter Try.func16, Try.ntmps16
      go_wp2_with fail
      refine (C.out _).mono ?_
      rintro e w1 ⟨rfl, b1⟩
      have b2 := below_prev b1
      go_wp2
      go_ret
      exact ⟨rfl, b2⟩
    · rw [if_neg h2]
      have g2 : decide (a < b) = true := decide_eq_true (by omega)
      go_enter Try.func16, Try.ntmps16
      go_wp2_with fail
      refine (C.out _).mono ?_
      rintro e w1 ⟨rfl, b1⟩
      have b2 := below_prev b1
      go_wp2
      go_ret
      exact ⟨rfl, b2⟩
theorem isOpen_impl (home away hg ag st : Int) (w : World) :
    Calls Try.prog 18 #[.agg #[.int .i64 home, .int .i64 away, .int .i64 hg, .int .i64 ag, .int .i64 st]] w fun e w' => e = .returned (.bool (st == 0)) ∧ Below w.heap.size w w' := by
  go_enter Try.func18, Try.ntmps18
  go_wp2
  go_ret
  exact ⟨rfl, (Below.refl _ _).alloc (Nat.le_refl _) _⟩
theorem playGame_impl (home away hg ag st : Int) (o : Int) (w : World) :
    Calls Try.prog 15 #[.agg #[.int .i64 home, .int .i64 away, .int .i64 hg, .int .i64 ag, .int .i64 st], .int .i64 o] w fun e w' => e = .returned (playD ⟨home, away, hg, ag, st⟩ o).val ∧ Below w.heap.size w w' := by
  unfold playD
  by_cases h : 1 ≤ o ∧ o ≤ 3
  · rw [if_pos h]
    have : o = 1 ∨ o = 2 ∨ o = 3 := by omega
    rcases this with rfl | rfl | rfl
    all_goals
      clear h
      go_enter Try.func15, Try.ntmps15
      go_wp2
      simp only [GameD.val]
      refine bodyPost_ret (by simp [results, Try.results15, go_sem]) rfl ⟨rfl, ?_⟩
      repeat (first | exact Below.refl _ _ | refine Below.setCell ?_ (by simp <;> omega) _ | refine Below.alloc ?_ (by simp <;> omega) _)
  · rw [if_neg h]
    have g1 : (o == 1) = false := beq_eq_false_iff_ne.2 (by omega)
    have g2 : (o == 2) = false := beq_eq_false_iff_ne.2 (by omega)
    have g3 : (o == 3) = false := beq_eq_false_iff_ne.2 (by omega)
    clear h
    simp only [GameD.val]
    go_enter Try.func15, Try.ntmps15
    go_wp2
    refine bodyPost_ret (v := .agg #[.int .i64 home, .int .i64 away, .int .i64 hg, .int .i64 ag, .int .i64 st]) (by simp [results, Try.results15, go_sem]) rfl ⟨rfl, ?_⟩
    repeat (first | exact Below.refl _ _ | refine Below.setCell ?_ (by simp <;> omega) _ | refine Below.alloc ?_ (by simp <;> omega) _)
theorem isFixture_impl (home away hg ag st h a : Int) (w : World) :
    Calls Try.prog 50 #[.agg #[.int .i64 home, .int .i64 away, .int .i64 hg, .int .i64 ag, .int .i64 st], .int .i64 h, .int .i64 a] w fun e w' => e = .returned (.bool (home == h && away == a)) ∧ Below w.heap.size w w' := by
  cases g1 : home == h with
  | true =>
    cases g2 : away == a with
    | true =>
      go_enter Try.func50, Try.ntmps50
      go_wp2
      go_ret
      exact ⟨rfl, (Below.refl _ _).alloc (Nat.le_refl _) _⟩
    | false =>
      go_enter Try.func50, Try.ntmps50
      go_wp2
      go_ret
      exact ⟨rfl, (Below.refl _ _).alloc (Nat.le_refl _) _⟩
  | false =>
    go_enter Try.func50, Try.ntmps50
    go_wp2
    go_ret
    exact ⟨rfl, (Below.refl _ _).alloc (Nat.le_refl _) _⟩
/-- a function value that holds two numbers in boxes B1, B2 -/
def twoBoxes (f B1 B2 : Nat) : Value := .func (.func f) #[] #[.pointer (some ⟨B1, 0, none⟩), .pointer (some ⟨B2, 0, none⟩)]
theorem fixCl_impl (home away hg ag st h a : Int) (B1 B2 : Nat) (w : World) (v1 : BoxN w B1 [.int .i64 h]) (v2 : BoxN w B2 [.int .i64 a]) :
    Calls Try.prog 52 #[.agg #[.int .i64 home, .int .i64 away, .int .i64 hg, .int .i64 ag, .int .i64 st], .pointer (some ⟨B1, 0, none⟩), .pointer (some ⟨B2, 0, none⟩)] w fun e w' => e = .returned (.bool (home == h && away == a)) ∧ Below w.heap.size w w' := by
  have l1 := v1.1
  have l2 := v2.1
  have c1 := v1.2 0 _ rfl
  have c2 := v2.2 0 _ rfl
  have C := Lib.hid (fun w1 => isFixture_impl home away hg ag st h a w1)
  generalize (home == h && away == a) = r at *
  clear v1 v2
  go_enter Try.func52, Try.ntmps52
  go_wp2_with fail
  refine (C.out _).mono ?_
  rintro e w1 ⟨rfl, b1⟩
  have b2 := below_prev b1
  go_wp2
  go_ret
  exact ⟨rfl, b2⟩
theorem betCl_impl (home away hg ag st a b : Int) (B1 B2 : Nat) (w : World) (v1 : BoxN w B1 [.int .i64 a]) (v2 : BoxN w B2 [.int .i64 b]) :
    Calls Try.prog 49 #[.agg #[.int .i64 home, .int .i64 away, .int .i64 hg, .int .i64 ag, .int .i64 st], .pointer (some ⟨B1, 0, none⟩), .pointer (some ⟨B2, 0, none⟩)] w fun e w' => e = .returned (.bool (betweenG a b ⟨home, away, hg, ag, st⟩)) ∧ Below w.heap.size w w' := by
  have l1 := v1.1
  have l2 := v2.1
  have c1 := v1.2 0 _ rfl
  have c2 := v2.2 0 _ rfl
  have K1 := Lib.hid v1
  have K2 := Lib.hid v2
  have C := Lib.hid (fun w1 => isFixture_impl home away hg ag st a b w1)
  have D := Lib.hid (fun w1 => isFixture_impl home away hg ag st b a w1)
  have hr : betweenG a b ⟨home, away, hg, ag, st⟩ = ((home == a && away == b) || (home == b && away == a)) := rfl
  rw [hr]
  clear hr v1 v2
  generalize (home == a && away == b) = r at *
  generalize (home == b && away == a) = r2 at *
  cases r with
  | true =>
    go_enter Try.func49, Try.ntmps49
    go_wp2_with fail
    refine (C.out _).mono ?_
    rintro e w1 ⟨rfl, b1⟩
    have b2 := below_prev b1
    go_wp2
    go_ret
    exact ⟨rfl, b2⟩
  | false =>
    go_enter Try.func49, Try.ntmps49
    go_wp2_with fail
    refine (C.out _).mono ?_
    rintro e w1 ⟨rfl, b1⟩
    have b2 := below_prev b1
    have bx := BoxN.made b1 (B := w.heap.size) rfl
    have d0 := bx.2 0 _ rfl
    have d1 := bx.2 1 _ rfl
    have d2 := bx.2 2 _ rfl
    have d3 := bx.2 3 _ rfl
    have d4 := bx.2 4 _ rfl
    have k1 := (K1.out.below b2).2 0 _ rfl
    have k2 := (K2.out.below b2).2 0 _ rfl
    clear bx c1 c2
    go_wp2_with fail
    refine (D.out _).mono ?_
    rintro e w2 ⟨rfl, b3⟩
    have b4 := b2.trans (b3.mono b2.size)
    go_wp2
    go_ret
    exact ⟨rfl, b4⟩
theorem indexFunc_impl (v : Value) (n : Nat) (g : Nat → GameD) (h a : Int) (B1 B2 : Nat) (w : World) (hv : GameRow w v n g) (v1 : BoxN w B1 [.int .i64 h]) (v2 : BoxN w B2 [.int .i64 a]) :
    Calls Try.prog 51 #[v, .func (.func 52) #[] #[.pointer (some ⟨B1, 0, none⟩), .pointer (some ⟨B2, 0, none⟩)]] w fun e w' => e = .returned (.int .i64 (firstI (atG g h a) n 0)) ∧ Below w.heap.size w w' := by
  obtain ⟨aa, cap, rfl, hn, hc⟩ := hv.form
  have HV := Lib.hid hc
  have K1 := Lib.hid v1
  have K2 := Lib.hid v2
  clear hc hv v1 v2
  generalize hr : firstI (atG g h a) n 0 = R
  have HR := Lib.hid hr
  clear hr
  go_enter Try.func51, Try.ntmps51
  go_wp2
  go_loopw [8] (fun i wr => ∃ k : Nat, k ≤ n ∧ i = .int .i64 k ∧ Hid (firstI (atG g h a) (n - k) k = R) ∧ Below w.heap.size w wr) (fun i _ => n - (intOf i).toNat)
  case atStart => exact ⟨0, Nat.zero_le _, rfl, HR.out, Below.refl _ _⟩
  case round =>
    obtain ⟨k, hk, rfl, hp, hb⟩ := hrel
    by_cases hlt : k < n
    · obtain ⟨b, off, rfl, hcap, hc⟩ := HV.out (by omega)
      have hstep := firstI_step (p := atG g h a) hlt
      rw [hp.out] at hstep
      have HY := Lib.hid (fun (e : atG g h a k = true) => hstep.trans (if_pos e))
      have HN := Lib.hid (fun (e : atG g h a k = false) => hstep.trans (if_neg (by rw [e]; simp)))
      have hq := (hc k hlt).belowB hb (hc k hlt).1
      clear hstep
      generalize hx : g k = x at *
      have Hx := Lib.hid hx
      obtain ⟨c0, c1, c2, c3, c4⟩ := game_cells hq
      have hsz := hb.size
      have k1 := BoxN.below K1.out hb
      have k2 := BoxN.below K2.out hb
      have C := Lib.hid (fun w1 h1 h2 => fixCl_impl x.home x.away x.hg x.ag x.st h a B1 B2 w1 h1 h2)
      have C2 := Lib.hid (C.out _ k1 k2)
      have HY2 := Lib.hid (fun (e : (x.home == h && x.away == a) = true) => HY.out (by unfold atG; rw [Hx.out]; exact e))
      have HN2 := Lib.hid (fun (e : (x.home == h && x.away == a) = false) => HN.out (by unfold atG; rw [Hx.out]; exact e))
      clear hc HV hp HR hq hx C k1 k2 HY HN
      generalize (x.home == h && x.away == a) = r at *
      cases r with
      | true =>
        obtain rfl := HY2.out rfl
        clear HY2 HN2
        go_wp2_with (go_at_call 52; refine C2.out.mono ?_; rintro e w2 ⟨rfl, b2⟩)
        go_ret
        exact ⟨rfl, hb.trans (b2.mono hsz)⟩
      | false =>
        have HS := Lib.hid (HN2.out rfl).symm
        clear HY2 HN2
        go_wp2_with (go_at_call 52; refine C2.out.mono ?_; rintro e w2 ⟨rfl, b2⟩)
        go_roundw
        case rel => exact ⟨k + 1, by omega, by go_num, HS.out, hb.trans (b2.mono hsz)⟩
        case measure => simp [intOf]; omega
    · obtain rfl : k = n := by omega
      have hR : R = -1 := by rw [← hp.out, Nat.sub_self]; rfl
      subst hR
      clear hp HR
      go_wp2
      go_ret
      exact ⟨rfl, hb⟩
theorem gameOf_impl (v : Value) (n : Nat) (g : Nat → GameD) (h a : Int) (w : World) (hv : GameRow w v n g) :
    Calls Try.prog 20 #[v, .int .i64 h, .int .i64 a] w fun e w' => e = .returned (.int .i64 (firstI (atG g h a) n 0)) ∧ Below w.heap.size w w' := by
  have b1 : Below w.heap.size w ((w.alloc (.cells #[.int .i64 h] 3)).alloc (.cells #[.int .i64 a] 3)) := ((Below.refl _ _).alloc (Nat.le_refl _) _).alloc (by simp) _
  have hv1 := hv.below b1 (Nat.le_refl _)
  have B1 : BoxN (w.alloc (.cells #[.int .i64 h] 3)) w.heap.size [.int .i64 h] := BoxN.made (Below.refl _ _) rfl
  have B2 : BoxN ((w.alloc (.cells #[.int .i64 h] 3)).alloc (.cells #[.int .i64 a] 3)) (w.heap.size + 1) [.int .i64 a] := BoxN.made (Below.refl _ _) (by simp)
  have B3 := B1.below ((Below.refl _ _).alloc (Nat.le_refl _) (.cells #[.int .i64 a] 3))
  have C := Lib.hid (indexFunc_impl v n g h a w.heap.size (w.heap.size + 1) _ hv1 B3 B2)
  generalize firstI (atG g h a) n 0 = R at *
  clear hv hv1 B1 B2 B3
  go_enter Try.func20, Try.ntmps20
  go_wp2_with fail
  refine C.out.mono ?_
  rintro e w2 ⟨rfl, b2⟩
  have b3 := b1.trans (b2.mono b1.size)
  go_wp2
  go_ret
  exact ⟨rfl, b3⟩
set_option maxHeartbeats 1000000 in
theorem whereOpen_impl (v : Value) (n : Nat) (g : Nat → GameD) (w : World) (hv : GameRow w v n g) (hn6 : n ≤ 1048576) :
    Calls Try.prog 48 #[v, .func (.func 18) #[] #[]] w (IntsL w (idxL (fun i => (g i).st == 0) n)) := by
  obtain ⟨i0, hi, hz0, hz1, hz2⟩ := info_parts Try.infoI
  obtain ⟨aa, cap, rfl, hn, hc⟩ := hv.form
  have HV := Lib.hid hc
  clear hc hv
  go_enter Try.func48, Try.ntmps48
  go_wp2
  go_loopw [5, 10] (fun out i wr => ∃ (k : Nat) (L : List Int), k ≤ n ∧ i = .int .i64 k ∧ Hid (L = idxL (fun i => (g i).st == 0) k) ∧ L.length ≤ k ∧ wr.ownsRow w.heap.size 3 1 out L.length (L.map (Value.int .i64)) ∧ Below w.heap.size w wr) (fun _ i _ => n - (intOf i).toNat)
  case atStart => exact ⟨0, [], Nat.zero_le _, rfl, rfl, Nat.zero_le _, World.ownsRow_nil _ _ _ _, Below.refl _ _⟩
  case round =>
    obtain ⟨k, L, hk, rfl, hL, hLk, hown, hb⟩ := hrel
    by_cases hlt : k < n
    · obtain ⟨b, off, rfl, hcap, hc⟩ := HV.out (by omega)
      have hq := (hc k hlt).belowB hb (hc k hlt).1
      have HY := Lib.hid (fun (h : (fun i => (g i).st == 0) k = true) => (congrArg (· ++ [(k : Int)]) hL.out).trans (idxL_yes h).symm)
      have HNo := Lib.hid (fun (h : (fun i => (g i).st == 0) k = false) => hL.out.trans (idxL_no h).symm)
      generalize hx : g k = x at *
      have Hx := Lib.hid hx
      obtain ⟨c0, c1, c2, c3, c4⟩ := game_cells hq
      have hsz := hb.size
      have hb1 := hb.alloc hsz (.cells #[.int .i64 x.home, .int .i64 x.away, .int .i64 x.hg, .int .i64 x.ag, .int .i64 x.st] 33)
      clear hc HV hq hx hL
      have C := Lib.hid (fun w1 => isOpen_impl x.home x.away x.hg x.ag x.st w1)
      have HY2 := Lib.hid (fun (e : (x.st == 0) = true) => HY.out (by show (fun i => (g i).st == 0) k = true; simp only [Hx.out]; exact e))
      have HN2 := Lib.hid (fun (e : (x.st == 0) = false) => HNo.out (by show (fun i => (g i).st == 0) k = false; simp only [Hx.out]; exact e))
      have hr : ∃ r, r = (x.st == 0) := ⟨_, rfl⟩
      obtain ⟨r, hr⟩ := hr
      have C2 := Lib.hid C.out
      clear C HY HNo
      rw [← hr] at HY2 HN2
      have C3 : Hid (∀ w1 : World, Calls Try.prog 18 #[.agg #[.int .i64 x.home, .int .i64 x.away, .int .i64 x.hg, .int .i64 x.ag, .int .i64 x.st]] w1 fun e w' => e = .returned (.bool r) ∧ Below w1.heap.size w1 w') := fun w1 => by rw [hr]; exact C2.out w1
      clear C2 hr
      cases r with
      | true =>
        have HYY := Lib.hid (HY2.out rfl)
        clear HY2 HN2
        go_wp2_with fail
        refine (C3.out _).mono ?_
        rintro e w4 ⟨rfl, b4⟩
        have b4' := below_prev b4
        have hown4 := owns_below hown b4' (Nat.le_refl _)
        have hb4 := hb.trans (b4'.mono hsz)
        have hsz4 := hb4.size
        clear b4 b4' hown hb hb1 C3
        go_wp2_with (at_builtin; refine wpList_pushL rfl (.tmp 18) (.tmp 20) 24 rfl w.heap.size 3 Try.underlying24 hi hz0 hz1 hz2 rfl (by decide) [.int .i64 k] rfl (by intro u hu; simp at hu; subst hu; rfl) rfl (by show Value.slice (some ⟨_, 0, none⟩) 1 1 = _; simp) hown4 (by unfold maxLen; omega) (by omega) hsz4 ?_; intro gg cc5 w5 o5 g5 at5 lt5)
        go_roundw
        case rel => exact ⟨k + 1, L ++ [(k : Int)], by omega, by go_num, HYY.out, by simp; omega, by simpa using o5, hb4.grown g5 hsz4 (fun q hq => (hown4.lt q hq).1)⟩
        case measure => simp [intOf]; omega
      | false =>
        have HNN := Lib.hid (HN2.out rfl)
        clear HY2 HN2
        go_wp2_with fail
        refine (C3.out _).mono ?_
        rintro e w4 ⟨rfl, b4⟩
        have b4' := below_prev b4
        have hown4 := owns_below hown b4' (Nat.le_refl _)
        have hb4 := hb.trans (b4'.mono hsz)
        clear b4 b4' hown hb hb1 C3
        go_wp2
        go_roundw
        case rel => exact ⟨k + 1, L, by omega, by go_num, HNN.out, by omega, hown4, hb4⟩
        case measure => simp [intOf]; omega
    · obtain rfl : k = n := by omega
      go_wp2
      go_ret
      exact ⟨_, rfl, by have := hown; rw [← hL.out]; exact this, hb⟩
set_option maxHeartbeats 1000000 in
theorem whereBet_impl (v : Value) (n : Nat) (g : Nat → GameD) (a b2 : Int) (B1 B2 : Nat) (w : World) (hv : GameRow w v n g) (hn6 : n ≤ 1048576) (v1 : BoxN w B1 [.int .i64 a]) (v2 : BoxN w B2 [.int .i64 b2]) :
    Calls Try.prog 48 #[v, .func (.func 49) #[] #[.pointer (some ⟨B1, 0, none⟩), .pointer (some ⟨B2, 0, none⟩)]] w (IntsL w (idxL (fun i => betweenG a b2 (g i)) n)) := by
  obtain ⟨i0, hi, hz0, hz1, hz2⟩ := info_parts Try.infoI
  obtain ⟨aa, cap, rfl, hn, hc⟩ := hv.form
  have HV := Lib.hid hc
  have K1 := Lib.hid v1
  have K2 := Lib.hid v2
  clear v1 v2
  clear hc hv
  go_enter Try.func48, Try.ntmps48
  go_wp2
  go_loopw [5, 10] (fun out i wr => ∃ (k : Nat) (L : List Int), k ≤ n ∧ i = .int .i64 k ∧ Hid (L = idxL (fun i => betweenG a b2 (g i)) k) ∧ L.length ≤ k ∧ wr.ownsRow w.heap.size 3 1 out L.length (L.map (Value.int .i64)) ∧ Below w.heap.size w wr) (fun _ i _ => n - (intOf i).toNat)
  case atStart => exact ⟨0, [], Nat.zero_le _, rfl, rfl, Nat.zero_le _, World.ownsRow_nil _ _ _ _, Below.refl _ _⟩
  case round =>
    obtain ⟨k, L, hk, rfl, hL, hLk, hown, hb⟩ := hrel
    by_cases hlt : k < n
    · obtain ⟨b, off, rfl, hcap, hc⟩ := HV.out (by omega)
      have hq := (hc k hlt).belowB hb (hc k hlt).1
      have HY := Lib.hid (fun (h : (fun i => betweenG a b2 (g i)) k = true) => (congrArg (· ++ [(k : Int)]) hL.out).trans (idxL_yes h).symm)
      have HNo := Lib.hid (fun (h : (fun i => betweenG a b2 (g i)) k = false) => hL.out.trans (idxL_no h).symm)
      generalize hx : g k = x at *
      have Hx := Lib.hid hx
      obtain ⟨c0, c1, c2, c3, c4⟩ := game_cells hq
      have hsz := hb.size
      have hb1 := hb.alloc hsz (.cells #[.int .i64 x.home, .int .i64 x.away, .int .i64 x.hg, .int .i64 x.ag, .int .i64 x.st] 33)
      clear hc HV hq hx hL
      have C := Lib.hid (fun w1 h1 h2 => betCl_impl x.home x.away x.hg x.ag x.st a b2 B1 B2 w1 h1 h2)
      have HY2 := Lib.hid (fun (e : (betweenG a b2 x) = true) => HY.out (by show (fun i => betweenG a b2 (g i)) k = true; simp only [Hx.out]; exact e))
      have HN2 := Lib.hid (fun (e : (betweenG a b2 x) = false) => HNo.out (by show (fun i => betweenG a b2 (g i)) k = false; simp only [Hx.out]; exact e))
      have hr : ∃ r, r = (betweenG a b2 x) := ⟨_, rfl⟩
      obtain ⟨r, hr⟩ := hr
      have C2 := Lib.hid C.out
      clear C HY HNo
      rw [← hr] at HY2 HN2
      have C3 : Hid (∀ w1 : World, BoxN w1 B1 [.int .i64 a] → BoxN w1 B2 [.int .i64 b2] → Calls Try.prog 49 #[.agg #[.int .i64 x.home, .int .i64 x.away, .int .i64 x.hg, .int .i64 x.ag, .int .i64 x.st], .pointer (some ⟨B1, 0, none⟩), .pointer (some ⟨B2, 0, none⟩)] w1 fun e w' => e = .returned (.bool r) ∧ Below w1.heap.size w1 w') := fun w1 h1 h2 => by rw [hr]; exact C2.out w1 h1 h2
      have k1 := Lib.hid (BoxN.below K1.out hb1)
      have k2 := Lib.hid (BoxN.below K2.out hb1)
      clear C2 hr
      cases r with
      | true =>
        have HYY := Lib.hid (HY2.out rfl)
        clear HY2 HN2
        go_wp2_with fail
        refine (C3.out _ k1.out k2.out).mono ?_
        rintro e w4 ⟨rfl, b4⟩
        have b4' := below_prev b4
        have hown4 := owns_below hown b4' (Nat.le_refl _)
        have hb4 := hb.trans (b4'.mono hsz)
        have hsz4 := hb4.size
        clear b4 b4' hown hb hb1 C3 k1 k2
        go_wp2_with (at_builtin; refine wpList_pushL rfl (.tmp 18) (.tmp 20) 24 rfl w.heap.size 3 Try.underlying24 hi hz0 hz1 hz2 rfl (by decide) [.int .i64 k] rfl (by intro u hu; simp at hu; subst hu; rfl) rfl (by show Value.slice (some ⟨_, 0, none⟩) 1 1 = _; simp) hown4 (by unfold maxLen; omega) (by omega) hsz4 ?_; intro gg cc5 w5 o5 g5 at5 lt5)
        go_roundw
        case rel => exact ⟨k + 1, L ++ [(k : Int)], by omega, by go_num, HYY.out, by simp; omega, by simpa using o5, hb4.grown g5 hsz4 (fun q hq => (hown4.lt q hq).1)⟩
        case measure => simp [intOf]; omega
      | false =>
        have HNN := Lib.hid (HN2.out rfl)
        clear HY2 HN2
        go_wp2_with fail
        refine (C3.out _ k1.out k2.out).mono ?_
        rintro e w4 ⟨rfl, b4⟩
        have b4' := below_prev b4
        have hown4 := owns_below hown b4' (Nat.le_refl _)
        have hb4 := hb.trans (b4'.mono hsz)
        clear b4 b4' hown hb hb1 C3 k1 k2
        go_wp2
        go_roundw
        case rel => exact ⟨k + 1, L, by omega, by go_num, HNN.out, by omega, hown4, hb4⟩
        case measure => simp [intOf]; omega
    · obtain rfl : k = n := by omega
      go_wp2
      go_ret
      exact ⟨_, rfl, by have := hown; rw [← hL.out]; exact this, hb⟩
theorem openGames_impl (v : Value) (n : Nat) (g : Nat → GameD) (w : World) (hv : GameRow w v n g) (hn6 : n ≤ 1048576) :
    Calls Try.prog 22 #[v] w (IntsL w (idxL (fun i => (g i).st == 0) n)) := by
  have C := Lib.hid (whereOpen_impl v n g w hv hn6)
  generalize idxL (fun i => (g i).st == 0) n = L at *
  clear hv
  go_enter Try.func22, Try.ntmps22
  go_wp2_with fail
  refine C.out.mono ?_
  rintro e w1 ⟨vr, rfl, ho, hb⟩
  go_wp2
  go_ret
  exact ⟨_, rfl, ho, hb⟩
theorem gamesBetween_impl (v : Value) (n : Nat) (g : Nat → GameD) (a b2 : Int) (w : World) (hv : GameRow w v n g) (hn6 : n ≤ 1048576) :
    Calls Try.prog 19 #[v, .int .i64 a, .int .i64 b2] w (IntsL w (idxL (fun i => betweenG a b2 (g i)) n)) := by
  have b1 : Below w.heap.size w ((w.alloc (.cells #[.int .i64 a] 3)).alloc (.cells #[.int .i64 b2] 3)) := ((Below.refl _ _).alloc (Nat.le_refl _) _).alloc (by simp) _
  have hv1 := hv.below b1 (Nat.le_refl _)
  have B1 : BoxN (w.alloc (.cells #[.int .i64 a] 3)) w.heap.size [.int .i64 a] := BoxN.made (Below.refl _ _) rfl
  have B2 : BoxN ((w.alloc (.cells #[.int .i64 a] 3)).alloc (.cells #[.int .i64 b2] 3)) (w.heap.size + 1) [.int .i64 b2] := BoxN.made (Below.refl _ _) (by simp)
  have B3 := B1.below ((Below.refl _ _).alloc (Nat.le_refl _) (.cells #[.int .i64 b2] 3))
  have C := Lib.hid (whereBet_impl v n g a b2 w.heap.size (w.heap.size + 1) _ hv1 hn6 B3 B2)
  generalize idxL (fun i => betweenG a b2 (g i)) n = L at *
  clear hv hv1 B1 B2 B3
  go_enter Try.func19, Try.ntmps19
  go_wp2_with fail
  refine C.out.mono ?_
  rintro e w1 ⟨vr, rfl, ho, hb⟩
  have b3 := b1.trans (hb.mono b1.size)
  have ho3 := owns_mono ho b1.size
  go_wp2
  go_ret
  exact ⟨_, rfl, ho3, b3⟩
end Go.Proofs.Ytccjkchheanjmaa
