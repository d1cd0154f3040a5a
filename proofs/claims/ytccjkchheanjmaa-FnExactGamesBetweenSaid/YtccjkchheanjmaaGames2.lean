/-
  Games: the model's GameOf, OpenGames, GamesBetween, SeasonOk.
-/
import Derived.Test.YtccjkchheanjmaaGames
import Derived.Test.YtccjkchheanjmaaPush
set_option linter.unusedVariables false
namespace Go.Proofs.Ytccjkchheanjmaa
open Go.RowKit

/-- game number i has these teams -/
def atG (g : Nat → GameD) (h a : Int) (i : Nat) : Bool := (g i).home == h && (g i).away == a
/-- the five cells of a game -/
theorem game_cells {w : World} {b o : Nat} {x : GameD} (h : CellsAt w b o x.cells) : w.cell? ⟨b, o, none⟩ = some (.int .i64 x.home) ∧ w.cell? ⟨b, o + 1, none⟩ = some (.int .i64 x.away) ∧ w.cell? ⟨b, o + 2, none⟩ = some (.int .i64 x.hg) ∧
    w.cell? ⟨b, o + 3, none⟩ = some (.int .i64 x.ag) ∧ w.cell? ⟨b, o + 4, none⟩ = some (.int .i64 x.st) := ⟨h.2 0 _ rfl, h.2 1 _ rfl, h.2 2 _ rfl, h.2 3 _ rfl, h.2 4 _ rfl⟩
theorem gameOf_spec (v : Value) (n : Nat) (g : Nat → GameD) (h a : Int) (w : World) (hv : GameRow w v n g) :
    Calls Try.prog 33 #[v, .int .i64 h, .int .i64 a] w fun e w' => e = .returned (.int .i64 (firstI (atG g h a) n 0)) ∧ Below w.heap.size w w' := by
  obtain ⟨aa, cap, rfl, hn, hc⟩ := hv.form
  have HV := Lib.hid hc
  clear hc hv
  generalize hr : firstI (atG g h a) n 0 = R
  have HR := Lib.hid hr
  clear hr
  go_enter Try.func33, Try.ntmps33
  go_wp2
  go_loopw [11] (fun i wr => ∃ k : Nat, k ≤ n ∧ i = .int .i64 k ∧ Hid (firstI (atG g h a) (n - k) k = R) ∧ Below w.heap.size w wr) (fun i _ => n - (intOf i).toNat)
  case atStart => exact ⟨0, Nat.zero_le _, rfl, HR.out, Below.refl _ _⟩
  case round =>
    obtain ⟨k, hk, rfl, hp, hb⟩ := hrel
    by_cases hlt : k < n
    · obtain ⟨b, off, rfl, hcap, hc⟩ := HV.out (by omega)
      have hstep := firstI_step (p := atG g h a) hlt
      rw [hp.out] at hstep
      have HY := Lib.hid (fun (e : atG g h a k = true) => hstep.trans (if_pos e))
      have HN := Lib.hid (fun (e : atG g h a k = false) => hstep.trans (if_neg (by rw [e]; simp)))
      have hq := (hc k hlt).belowB hb (hc k hlt).1
      clear hstep
      generalize hx : g k = x at *
      have Hx := Lib.hid hx
      obtain ⟨c0, c1, c2, c3, c4⟩ := game_cells hq
      have hsz := hb.size
      have hb2 := hb.alloc hsz (.cells #[.int .i64 x.home, .int .i64 x.away, .int .i64 x.hg, .int .i64 x.ag, .int .i64 x.st] 33)
      clear hc HV hp HR hq hx
      by_cases h1 : x.home = h
      · have g1 : (x.home == h) = true := by simpa using h1
        by_cases h2 : x.away = a
        · have g2 : (x.away == a) = true := by simpa using h2
          obtain rfl := HY.out (by unfold atG; rw [Hx.out, g1, g2]; rfl)
          clear HY HN
          have H1 := Lib.hid h1
          have H2 := Lib.hid h2
          clear h1 h2
          go_wp2
          go_ret
          exact ⟨rfl, hb2⟩
        · have g2 : (x.away == a) = false := beq_eq_false_iff_ne.2 h2
          have HS := Lib.hid (HN.out (by unfold atG; rw [Hx.out, g1, g2]; rfl)).symm
          have H1 := Lib.hid h1
          clear HY HN h1 h2
          go_wp2
          go_roundw
          case rel => exact ⟨k + 1, by omega, by go_num, HS.out, hb2⟩
          case measure => simp [intOf]; omega
      · have g1 : (x.home == h) = false := beq_eq_false_iff_ne.2 h1
        have HS := Lib.hid (HN.out (by unfold atG; rw [Hx.out, g1]; rfl)).symm
        clear HY HN h1
        go_wp2
        go_roundw
        case rel => exact ⟨k + 1, by omega, by go_num, HS.out, hb2⟩
        case measure => simp [intOf]; omega
    · obtain rfl : k = n := by omega
      have hR : R = -1 := by rw [← hp.out, Nat.sub_self]; rfl
      subst hR
      clear hp HR
      go_wp2
      go_ret
      exact ⟨rfl, hb⟩
set_option maxHeartbeats 1000000 in
theorem openGames_spec (v : Value) (n : Nat) (g : Nat → GameD) (w : World) (hv : GameRow w v n g) (hn6 : n ≤ 1048576) :
    Calls Try.prog 34 #[v] w (IntsL w (idxL (fun i => (g i).st == 0) n)) := by
  obtain ⟨i0, hi, hz0, hz1, hz2⟩ := info_parts Try.infoI
  obtain ⟨aa, cap, rfl, hn, hc⟩ := hv.form
  have HV := Lib.hid hc
  clear hc hv
  have o0 : (w.alloc (.cells #[] 3)).ownsRow w.heap.size 3 1 (.slice (some ⟨w.heap.size, 0, none⟩) 0 0) 0 [] := World.ownsRow_lit w #[] 0 (Nat.le_refl _) (by decide) rfl
  go_enter Try.func34, Try.ntmps34
  go_wp2
  go_loopw [3, 9] (fun out i wr => ∃ (k : Nat) (L : List Int), k ≤ n ∧ i = .int .i64 k ∧ Hid (L = idxL (fun i => (g i).st == 0) k) ∧ L.length ≤ k ∧ wr.ownsRow w.heap.size 3 1 out L.length (L.map (Value.int .i64)) ∧ Below w.heap.size w wr) (fun _ i _ => n - (intOf i).toNat)
  case atStart => exact ⟨0, [], Nat.zero_le _, rfl, rfl, Nat.zero_le _, o0, (Below.refl _ _).alloc (Nat.le_refl _) _⟩
  case round =>
    clear o0
    obtain ⟨k, L, hk, rfl, hL, hLk, hown, hb⟩ := hrel
    by_cases hlt : k < n
    · obtain ⟨b, off, rfl, hcap, hc⟩ := HV.out (by omega)
      have hq := (hc k hlt).belowB hb (hc k hlt).1
      have HY := Lib.hid (fun (h : (fun i => (g i).st == 0) k = true) => (congrArg (· ++ [(k : Int)]) hL.out).trans (idxL_yes h).symm)
      have HNo := Lib.hid (fun (h : (fun i => (g i).st == 0) k = false) => hL.out.trans (idxL_no h).symm)
      generalize hx : g k = x at *
      have Hx := Lib.hid hx
      obtain ⟨c0, c1, c2, c3, c4⟩ := game_cells hq
      have hsz := hb.size
      clear hc HV hq hx hL
      have C := Lib.hid (fun w1 => isOpen_spec x.home x.away x.hg x.ag x.st w1)
      have hown2 := hown.alloc (.cells #[.int .i64 x.home, .int .i64 x.away, .int .i64 x.hg, .int .i64 x.ag, .int .i64 x.st] 33)
      have hb2 := hb.alloc hsz (.cells #[.int .i64 x.home, .int .i64 x.away, .int .i64 x.hg, .int .i64 x.ag, .int .i64 x.st] 33)
      have hsz2 := hb2.size
      by_cases h0 : x.st = 0
      · have HYY := Lib.hid (HY.out (by show ((g k).st == 0) = true; rw [Hx.out]; simpa using h0))
        have g1 : (x.st == 0) = true := by simpa using h0
        rw [g1] at C
        have H0 := Lib.hid h0
        clear HY HNo h0 g1
        go_wp2_with fail
        refine (C.out _).mono ?_
        rintro e w4 ⟨rfl, b4⟩
        have b4' := below_prev b4
        have hown4 := owns_below hown b4' (Nat.le_refl _)
        have hb4 := hb.trans (b4'.mono hsz)
        have hsz4 := hb4.size
        clear hown2 hb2 hsz2 b4 b4' hown hb
        go_wp2_with (at_builtin; refine wpList_pushL rfl (.tmp 16) (.tmp 18) 24 rfl w.heap.size 3 Try.underlying24 hi hz0 hz1 hz2 rfl (by decide) [.int .i64 k] rfl (by intro u hu; simp at hu; subst hu; rfl) rfl (by show Value.slice (some ⟨_, 0, none⟩) 1 1 = _; simp) hown4 (by unfold maxLen; omega) (by omega) hsz4 ?_; intro gg cc5 w5 o5 g5 at5 lt5)
        go_roundw
        case rel => exact ⟨k + 1, L ++ [(k : Int)], by omega, by go_num, HYY.out, by simp; omega, by simpa using o5, hb4.grown g5 hsz4 (fun q hq => (hown4.lt q hq).1)⟩
        case measure => simp [intOf]; omega
      · have HNN := Lib.hid (HNo.out (by show ((g k).st == 0) = false; rw [Hx.out]; exact beq_eq_false_iff_ne.2 h0))
        have g1 : (x.st == 0) = false := beq_eq_false_iff_ne.2 h0
        rw [g1] at C
        clear HY HNo h0 g1
        go_wp2_with fail
        refine (C.out _).mono ?_
        rintro e w4 ⟨rfl, b4⟩
        have b4' := below_prev b4
        have hown4 := owns_below hown b4' (Nat.le_refl _)
        have hb4 := hb.trans (b4'.mono hsz)
        clear hown2 hb2 hsz2 b4 b4' hown hb
        go_wp2
        go_roundw
        case rel => exact ⟨k + 1, L, by omega, by go_num, HNN.out, by omega, hown4, hb4⟩
        case measure => simp [intOf]; omega
    · obtain rfl : k = n := by omega
      go_wp2
      go_ret
      exact ⟨_, rfl, by have := hown; rw [← hL.out]; exact this, hb⟩
def betweenG (a b : Int) (t : GameD) : Bool := (t.home == a && t.away == b) || (t.home == b && t.away == a)
set_option maxHeartbeats 1000000 in
theorem gamesBetween_spec (v : Value) (n : Nat) (g : Nat → GameD) (a b2 : Int) (w : World) (hv : GameRow w v n g) (hn6 : n ≤ 1048576) :
    Calls Try.prog 41 #[v, .int .i64 a, .int .i64 b2] w (IntsL w (idxL (fun i => betweenG a b2 (g i)) n)) := by
  obtain ⟨i0, hi, hz0, hz1, hz2⟩ := info_parts Try.infoI
  obtain ⟨aa, cap, rfl, hn, hc⟩ := hv.form
  have HV := Lib.hid hc
  clear hc hv
  have o0 : (w.alloc (.cells #[] 3)).ownsRow w.heap.size 3 1 (.slice (some ⟨w.heap.size, 0, none⟩) 0 0) 0 [] := World.ownsRow_lit w #[] 0 (Nat.le_refl _) (by decide) rfl
  go_enter Try.func41, Try.ntmps41
  go_wp2
  go_loopw [7, 13] (fun out i wr => ∃ (k : Nat) (L : List Int), k ≤ n ∧ i = .int .i64 k ∧ Hid (L = idxL (fun i => betweenG a b2 (g i)) k) ∧ L.length ≤ k ∧ wr.ownsRow w.heap.size 3 1 out L.length (L.map (Value.int .i64)) ∧ Below w.heap.size w wr) (fun _ i _ => n - (intOf i).toNat)
  case atStart => exact ⟨0, [], Nat.zero_le _, rfl, rfl, Nat.zero_le _, o0, (Below.refl _ _).alloc (Nat.le_refl _) _⟩
  case round =>
    clear o0
    obtain ⟨k, L, hk, rfl, hL, hLk, hown, hb⟩ := hrel
    by_cases hlt : k < n
    · obtain ⟨b, off, rfl, hcap, hc⟩ := HV.out (by omega)
      have hq := (hc k hlt).belowB hb (hc k hlt).1
      have HY := Lib.hid (fun (h : (fun i => betweenG a b2 (g i)) k = true) => (congrArg (· ++ [(k : Int)]) hL.out).trans (idxL_yes h).symm)
      have HNo := Lib.hid (fun (h : (fun i => betweenG a b2 (g i)) k = false) => hL.out.trans (idxL_no h).symm)
      generalize hx : g k = x at *
      have Hx := Lib.hid hx
      obtain ⟨c0, c1, c2, c3, c4⟩ := game_cells hq
      have hsz := hb.size
      clear hc HV hq hx hL
      have hown2 := hown.alloc (.cells #[.int .i64 x.home, .int .i64 x.away, .int .i64 x.hg, .int .i64 x.ag, .int .i64 x.st] 33)
      have hb2 := hb.alloc hsz (.cells #[.int .i64 x.home, .int .i64 x.away, .int .i64 x.hg, .int .i64 x.ag, .int .i64 x.st] 33)
      have hsz2 := hb2.size
      have hcase : ((x.home == a) = true ∧ (x.away == b2) = true) ∨ ((x.home == a) = true ∧ (x.away == b2) = false ∧ (x.home == b2) = false) ∨ ((x.home == a) = true ∧ (x.away == b2) = false ∧ (x.home == b2) = true ∧ (x.away == a) = true) ∨ ((x.home == a) = true ∧ (x.away == b2) = false ∧ (x.home == b2) = true ∧ (x.away == a) = false) ∨
          ((x.home == a) = false ∧ (x.home == b2) = false) ∨ ((x.home == a) = false ∧ (x.home == b2) = true ∧ (x.away == a) = true) ∨ ((x.home == a) = false ∧ (x.home == b2) = true ∧ (x.away == a) = false) := by
        cases x.home == a <;> cases x.away == b2 <;> cases x.home == b2 <;> cases x.away == a <;> simp
      have hv : betweenG a b2 (g k) = ((x.home == a && x.away == b2) || (x.home == b2 && x.away == a)) := by rw [Hx.out]; rfl
      have Hv := Lib.hid hv
      clear hv
      rcases hcase with ⟨g1, g2⟩ | ⟨g1, g2, g3⟩ | ⟨g1, g2, g3, g4⟩ | ⟨g1, g2, g3, g4⟩ | ⟨g1, g3⟩ | ⟨g1, g3, g4⟩ | ⟨g1, g3, g4⟩
      · have HYY := Lib.hid (HY.out (by show betweenG a b2 (g k) = true; rw [Hv.out, g1, g2]; rfl))
        clear HY HNo Hv hown hb
        go_wp2_with (at_builtin; refine wpList_pushL rfl (.tmp 40) (.tmp 42) 24 rfl w.heap.size 3 Try.underlying24 hi hz0 hz1 hz2 rfl (by decide) [.int .i64 k] rfl (by intro u hu; simp at hu; subst hu; rfl) rfl (by show Value.slice (some ⟨_, 0, none⟩) 1 1 = _; simp) hown2 (by unfold maxLen; omega) (by omega) hsz2 ?_; intro gg cc5 w5 o5 g5 at5 lt5)
        go_roundw
        case rel => exact ⟨k + 1, L ++ [(k : Int)], by omega, by go_num, HYY.out, by simp; omega, by simpa using o5, hb2.grown g5 hsz2 (fun q hq => (hown2.lt q hq).1)⟩
        case measure => simp [intOf]; omega
      · have HNN := Lib.hid (HNo.out (by show betweenG a b2 (g k) = false; rw [Hv.out, g1, g2, g3]; rfl))
        clear HY HNo Hv hown hb
        go_wp2
        go_roundw
        case rel => exact ⟨k + 1, L, by omega, by go_num, HNN.out, by omega, hown2, hb2⟩
        case measure => simp [intOf]; omega
      · have HYY := Lib.hid (HY.out (by show betweenG a b2 (g k) = true; rw [Hv.out, g1, g2, g3, g4]; rfl))
        clear HY HNo Hv hown hb
        go_wp2_with (at_builtin; refine wpList_pushL rfl (.tmp 40) (.tmp 42) 24 rfl w.heap.size 3 Try.underlying24 hi hz0 hz1 hz2 rfl (by decide) [.int .i64 k] rfl (by intro u hu; simp at hu; subst hu; rfl) rfl (by show Value.slice (some ⟨_, 0, none⟩) 1 1 = _; simp) hown2 (by unfold maxLen; omega) (by omega) hsz2 ?_; intro gg cc5 w5 o5 g5 at5 lt5)
        go_roundw
        case rel => exact ⟨k + 1, L ++ [(k : Int)], by omega, by go_num, HYY.out, by simp; omega, by simpa using o5, hb2.grown g5 hsz2 (fun q hq => (hown2.lt q hq).1)⟩
        case measure => simp [intOf]; omega
      · have HNN := Lib.hid (HNo.out (by show betweenG a b2 (g k) = false; rw [Hv.out, g1, g2, g3, g4]; rfl))
        clear HY HNo Hv hown hb
        go_wp2
        go_roundw
        case rel => exact ⟨k + 1, L, by omega, by go_num, HNN.out, by omega, hown2, hb2⟩
        case measure => simp [intOf]; omega
      · have HNN := Lib.hid (HNo.out (by show betweenG a b2 (g k) = false; rw [Hv.out, g1, g3]; rfl))
        clear HY HNo Hv hown hb
        go_wp2
        go_roundw
        case rel => exact ⟨k + 1, L, by omega, by go_num, HNN.out, by omega, hown2, hb2⟩
        case measure => simp [intOf]; omega
      · have HYY := Lib.hid (HY.out (by show betweenG a b2 (g k) = true; rw [Hv.out, g1, g3, g4]; rfl))
        clear HY HNo Hv hown hb
        go_wp2_with (at_builtin; refine wpList_pushL rfl (.tmp 40) (.tmp 42) 24 rfl w.heap.size 3 Try.underlying24 hi hz0 hz1 hz2 rfl (by decide) [.int .i64 k] rfl (by intro u hu; simp at hu; subst hu; rfl) rfl (by show Value.slice (some ⟨_, 0, none⟩) 1 1 = _; simp) hown2 (by unfold maxLen; omega) (by omega) hsz2 ?_; intro gg cc5 w5 o5 g5 at5 lt5)
        go_roundw
        case rel => exact ⟨k + 1, L ++ [(k : Int)], by omega, by go_num, HYY.out, by simp; omega, by simpa using o5, hb2.grown g5 hsz2 (fun q hq => (hown2.lt q hq).1)⟩
        case measure => simp [intOf]; omega
      · have HNN := Lib.hid (HNo.out (by show betweenG a b2 (g k) = false; rw [Hv.out, g1, g3, g4]; rfl))
        clear HY HNo Hv hown hb
        go_wp2
        go_roundw
        case rel => exact ⟨k + 1, L, by omega, by go_num, HNN.out, by omega, hown2, hb2⟩
        case measure => simp [intOf]; omega
    · obtain rfl : k = n := by omega
      go_wp2
      go_ret
      exact ⟨_, rfl, by have := hown; rw [← hL.out]; exact this, hb⟩
end Go.Proofs.Ytccjkchheanjmaa
