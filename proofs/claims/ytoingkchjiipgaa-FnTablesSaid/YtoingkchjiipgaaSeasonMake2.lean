/-
  The model's making of a season: l04Season.
-/
import Derived.Test.YtoingkchjiipgaaSeasonMake
import Derived.Test.YtoingkchjiipgaaPush
import Derived.Deep.DeepCutAuto
set_option linter.unusedVariables false
namespace Go.Proofs.Ytoingkchjiipgaa
open Go.RowKit

theorem pick_row (w : World) : IntRow (w.alloc (.cells #[.int .i64 1, .int .i64 1, .int .i64 1, .int .i64 1, .int .i64 1, .int .i64 1, .int .i64 2, .int .i64 3, .int .i64 4] 3)) (.slice (some ⟨w.heap.size, 0, none⟩) 9 9) 9 pickG := by
  refine .inr ⟨w.heap.size, 0, 9, rfl, by omega, by omega, fun i hi => ?_, Nat.le_refl _⟩
  rw [Nat.zero_add, cell_of_row _ w.heap.size i _ _ (0, 0) (heap_alloc_new w _)]
  have : i = 0 ∨ i = 1 ∨ i = 2 ∨ i = 3 ∨ i = 4 ∨ i = 5 ∨ i = 6 ∨ i = 7 ∨ i = 8 := by omega
  rcases this with rfl | rfl | rfl | rfl | rfl | rfl | rfl | rfl | rfl <;> rfl
set_option maxRecDepth 100000 in
set_option maxHeartbeats 8000000 in
theorem l04Season_any (B : Nat) (a : Option Addr) (len cap : Nat) (g : Nat → Nat) (n opn : Nat) (w : World) (hc : Cur B a len cap g w) (hn : n ≤ 8) (h1 : 1 ≤ n) (ho : opn ≤ 1000) :
    Calls Try.prog 66 #[.pointer (some ⟨B, 0, none⟩), .int .i64 (n : Int), .int .i64 (opn : Int)] w (SeaMade B a len cap g n opn w) := by
  obtain ⟨i0, hi, hz0, hz1, hz2⟩ := info_parts Try.infoGame
  have hlB := hc.ltW
  have LO := Lib.hid (fun (m : Nat) w1 hc (h1 : 0 < m) (h2 : m ≤ 256) => l01Once_any B a len cap g m w1 hc h1 h2)
  have LB := Lib.hid (fun w1 hc => l01Below_small B a len cap g 4 w1 hc (by omega) (by omega))
  have LP := Lib.hid (fun v w1 hc hv hB => l01Pick_any B a len cap g v 9 pickG w1 hc (by omega) (by omega) hv hB)
  have S0 : SeaS B a len cap g w (.slice (some ⟨w.heap.size, 0, none⟩) 0 0) [] (w.alloc (.cells #[] 36)) :=
    ⟨hc.belowW ((Below.refl _ _).alloc (Nat.le_refl _) _) hlB, World.ownsRow_lit w #[] 0 (Nat.le_refl _) (by decide) rfl, World.grownBy_alloc _ _ _, hlB⟩
  have HS0 := Lib.hid S0
  clear hc S0
  go_enter Try.func66, Try.ntmps66
  go_wp2
  go_loopw [2, 7, 8] (fun ov out bv wr => ∃ (b o m : Nat) (L : List GameD), 1 ≤ b ∧ b ≤ n ∧ bv = .int .i64 b ∧ ov = .int .i64 o ∧ o + m = opn ∧ L.length ≤ 8 * b ∧ Hid (SeaL 0 b L m) ∧ Hid (SeaS B a len cap g w out L wr)) (fun _ _ bv _ => n - (intOf bv).toNat)
  case atStart => exact ⟨1, opn, 0, [], by omega, by omega, rfl, rfl, by omega, by simp, ⟨fun t ht => by simp at ht, List.Pairwise.nil, rfl, fun h => absurd h (by omega)⟩, HS0.out⟩
  case round =>
    clear HS0
    obtain ⟨b, o, m, L, hb1, hbn, rfl, rfl, hom, hLl, hL, hS⟩ := hrel
    by_cases hlt : b < n
    · obtain ⟨wo, rfl⟩ : ∃ wo : World, wo = wr := ⟨_, rfl⟩
      go_wp2
      go_loopw [2, 7, 9] (fun ov out av wr => ∃ (x o m : Nat) (L : List GameD), x ≤ b ∧ av = .int .i64 x ∧ ov = .int .i64 o ∧ o + m = opn ∧ L.length ≤ 8 * b + x ∧ Hid (SeaL x b L m) ∧ Hid (SeaS B a len cap g w out L wr)) (fun _ _ av _ => b - (intOf av).toNat)
      case atStart => exact ⟨0, o, m, L, by omega, rfl, rfl, hom, by omega, hL, hS⟩
      case round =>
        clear hL hS hLl hom
        obtain ⟨x, o, m, L, hxb, rfl, rfl, hom, hLl, hL, hS⟩ := hrel
        by_cases hxlt : x < b
        · have hB0 := Lib.hid (SeaB.start hS.out #[.int .i64 x, .int .i64 b, .int .i64 0, .int .i64 0, .int .i64 0])
          have hSz := hS.out.2.2.1.size
          have hL28 : L.length ≤ 72 := by omega
          go_wp2_with fail
          refine (LO.out 2 _ hB0.out.cur (by omega) (by omega)).mono ?_
          rintro e w2 ⟨⟨r, rfl⟩, c2, g2⟩
          have hB2 := Lib.hid (hB0.out.drawn c2 g2)
          have hDl : wr.heap.size < w2.heap.size := by have := (Array.getElem?_eq_some_iff.1 hB2.out.2.1).1; exact this
          generalize hD : wr.heap.size = D at *
          clear hD c2 g2 hB0 hS hSz
          go_upto_if 26 with fail
          go_cut [] (fun wx => ∃ hm aw : Int, Hid (SeaB B a len cap g w u7 L D #[.int .i64 hm, .int .i64 aw, .int .i64 0, .int .i64 0, .int .i64 0] wx) ∧ Hid ((hm = x ∧ aw = b) ∨ (hm = b ∧ aw = x)))
          case first =>
            cases r with
            | false =>
              go_wp2_with fail
              go_meet
              case rel => exact ⟨x, b, hB2, .inl ⟨rfl, rfl⟩⟩
            | true =>
              have k0 := hB2.out.cell 0
              have k1 := hB2.out.cell 1
              have k2 := hB2.out.cell 2
              have k3 := hB2.out.cell 3
              have k4 := hB2.out.cell 4
              have f0 := hB2.out.free 0
              have f1 := hB2.out.free 1
              have f2 := hB2.out.free 2
              have f3 := hB2.out.free 3
              have f4 := hB2.out.free 4
              have hB3 := Lib.hid (((((hB2.out.set 0 (.int .i64 b)).set 1 (.int .i64 x)).set 2 (.int .i64 0)).set 3 (.int .i64 0)).set 4 (.int .i64 0))
              go_wp2_with fail
              go_meet
              case rel => exact ⟨b, x, hB3, .inr ⟨rfl, rfl⟩⟩
          case rest =>
            obtain ⟨hm, aw, hB3, hpair⟩ := hcut
            clear hB2
            go_upto_region 11 with fail
            go_cut [35] (fun s35 wx => ∃ q : Bool, s35 = .bool q ∧ (q = true → 0 < o) ∧ Hid (SeaB B a len cap g w u7 L D #[.int .i64 hm, .int .i64 aw, .int .i64 0, .int .i64 0, .int .i64 0] wx))
            case first =>
              by_cases ho0 : 0 < o
              · have g9 : decide (0 < (o : Int)) = true := decide_eq_true (by omega)
                have g9' : decide (0 < o) = true := decide_eq_true ho0
                go_wp2_with fail
                refine (LO.out 3 _ hB3.out.cur (by omega) (by omega)).mono ?_
                rintro e w4 ⟨⟨q, rfl⟩, c4, g4⟩
                have hB4 := Lib.hid (hB3.out.drawn c4 g4)
                clear c4 g4
                go_wp2_with fail
                go_meet
                case rel => exact ⟨q, rfl, fun _ => ho0, hB4⟩
              · have g9 : decide (0 < (o : Int)) = false := decide_eq_false (by omega)
                have g9' : decide (0 < o) = false := decide_eq_false ho0
                go_wp2_with fail
                go_meet
                case rel => exact ⟨false, rfl, (fun h => by cases h), hB3⟩
            case rest =>
              obtain ⟨q, rfl, hq, hB4⟩ := hcut
              clear hB3
              go_upto_if 35 with fail
              go_cut [2] (fun s2 wx => ∃ (o2 : Nat) (st : Int), s2 = .int .i64 o2 ∧ (0 ≤ st ∧ st ≤ 4) ∧ Hid (o2 + (m + if st = 0 then 1 else 0) = opn) ∧ Hid (SeaB B a len cap g w u7 L D #[.int .i64 hm, .int .i64 aw, .int .i64 0, .int .i64 0, .int .i64 st] wx))
              case first =>
                cases q with
                | true =>
                  have ho0 := hq rfl
                  go_wp2_with fail
                  go_meet
                  case rel => exact ⟨o - 1, 0, by go_num, by omega, by show _ = _; simp; omega, hB4⟩
                | false =>
                  have hbl : ∀ (w1 : World), Below w1.heap.size w1 (w1.alloc (.cells #[.int .i64 1, .int .i64 1, .int .i64 1, .int .i64 1, .int .i64 1, .int .i64 1, .int .i64 2, .int .i64 3, .int .i64 4] 3)) := fun w1 => (Below.refl _ _).alloc (Nat.le_refl _) _
                  have hlB4 := hB4.out.cur.ltW
                  go_wp2_with fail
                  refine (LP.out _ _ (hB4.out.cur.belowW (hbl _) hlB4) (pick_row _) (by simp [Value.ownBlock]; omega)).mono ?_
                  rintro e w5 ⟨⟨i, hi9, rfl⟩, c5, g5⟩
                  have hB5 := Lib.hid ((hB4.out.below (hbl _)).drawn c5 g5)
                  obtain ⟨p1, p4⟩ := pickG_in i hi9
                  generalize pickG i = st at *
                  have k4 := hB5.out.cell 4
                  have f4 := hB5.out.free 4
                  have hB6 := Lib.hid (hB5.out.set 4 (.int .i64 st))
                  have HOM := Lib.hid hom
                  have hst0 : ¬ st = 0 := by omega
                  clear c5 g5 hbl
                  go_wp2_with fail
                  go_meet
                  case rel => exact ⟨o, st, rfl, by omega, by show _ = _; rw [if_neg hst0]; exact HOM.out, hB6⟩
              case rest =>
                obtain ⟨o2, st, rfl, hst, hom2, hB6⟩ := hcut
                clear hB4 hq hom
                have k4 := hB6.out.cell 4
                go_upto_if 44 with fail
                go_cut [] (fun wx => ∃ hg ag : Int, Hid (SeaB B a len cap g w u7 L D (GameD.cells ⟨hm, aw, hg, ag, st⟩).toArray wx) ∧ Hid ((st = 1 ∧ (0 ≤ hg ∧ hg ≤ 3) ∧ (0 ≤ ag ∧ ag ≤ 3)) ∨ (st ≠ 1 ∧ hg = 0 ∧ ag = 0)))
                case first =>
                  by_cases h1s : st = 1
                  · have g1s : (st == 1) = true := by simpa using h1s
                    have H1S := Lib.hid h1s
                    clear h1s
                    go_wp2_with fail
                    refine (LB.out _ hB6.out.cur).mono ?_
                    rintro e w7 ⟨y1, hy1, rfl, c7, g7⟩
                    have hB7 := Lib.hid (hB6.out.drawn c7 g7)
                    have k2 := hB7.out.cell 2
                    have f2 := hB7.out.free 2
                    have hB8 := Lib.hid (hB7.out.set 2 (.int .i64 y1))
                    clear c7 g7 k4
                    go_wp2_with fail
                    generalize w7.setCell ⟨D, 2, none⟩ (.int .i64 y1) = w8 at *
                    refine (LB.out _ hB8.out.cur).mono ?_
                    rintro e w9 ⟨y2, hy2, rfl, c9, g9⟩
                    have hB9 := Lib.hid (hB8.out.drawn c9 g9)
                    have k3 := hB9.out.cell 3
                    have f3 := hB9.out.free 3
                    have hB10 := Lib.hid (hB9.out.set 3 (.int .i64 y2))
                    clear c9 g9 k2 f2
                    go_wp2_with fail
                    go_meet
                    case rel => exact ⟨y1, y2, hB10, .inl ⟨H1S.out, by omega, by omega⟩⟩
                  · have g1s : (st == 1) = false := beq_eq_false_iff_ne.2 h1s
                    have H1S := Lib.hid h1s
                    clear h1s
                    go_wp2_with fail
                    go_meet
                    case rel => exact ⟨0, 0, hB6, .inr ⟨H1S.out, rfl, rfl⟩⟩
                case rest =>
                  obtain ⟨hgv, agv, hB7, hgl⟩ := hcut
                  clear hB6 k4
                  have k0 : wc.cell? ⟨D, 0, none⟩ = some (.int .i64 hm) := hB7.out.cell 0
                  have k1 : wc.cell? ⟨D, 1, none⟩ = some (.int .i64 aw) := hB7.out.cell 1
                  have k2 : wc.cell? ⟨D, 2, none⟩ = some (.int .i64 hgv) := hB7.out.cell 2
                  have k3 : wc.cell? ⟨D, 3, none⟩ = some (.int .i64 agv) := hB7.out.cell 3
                  have k4 : wc.cell? ⟨D, 4, none⟩ = some (.int .i64 st) := hB7.out.cell 4
                  have O7 := Lib.hid hB7.out.1.2.1
                  have hs7 : w.heap.size ≤ wc.heap.size := hB7.out.1.2.2.1.size
                  have hL2 := Lib.hid (hL.out.next (x := ⟨hm, aw, hgv, agv, st⟩) (by omega) (by omega) hpair.out hst hgl.out)
                  clear hL hpair hgl
                  go_wp2_with (at_builtin; refine wpList_pushL rfl (.tmp 51) (.tmp 53) 27 rfl w.heap.size 36 Try.underlying27 hi hz0 hz1 hz2 rfl (by decide) (GameD.cells ⟨hm, aw, hgv, agv, st⟩) rfl (by intro u hu; simp [GameD.cells] at hu; rcases hu with rfl | rfl | rfl | rfl | rfl <;> rfl) rfl rfl O7.out (by unfold maxLen; omega) (by omega) hs7 ?_; intro gg cc5 w10 o10 g10 at10 lt10; have S10 := Lib.hid (hB7.out.push o10 g10))
                  go_roundw
                  case rel => exact ⟨x + 1, o2, _, _, by omega, by go_num, rfl, hom2.out, by simp; omega, hL2, S10⟩
                  case measure => simp [intOf]; omega
        · obtain rfl : x = b := by omega
          have hL2 := Lib.hid hL.out.row
          clear hL
          go_wp2
          go_roundw
          case rel => exact ⟨x + 1, o, m, L, by omega, by omega, by go_num, rfl, hom, by omega, hL2, hS⟩
          case measure => simp [intOf]; omega
    · obtain rfl : b = n := by omega
      go_wp2
      go_ret
      exact ⟨_, L, m, rfl, hL.out, by omega, by omega, hS.out.2.1, hS.out.1, hS.out.2.2.1⟩
end Go.Proofs.Ytoingkchjiipgaa
