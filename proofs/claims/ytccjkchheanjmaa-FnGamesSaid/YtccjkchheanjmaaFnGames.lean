/-
  The law FnGames holds for every argument: in a made season every game can be played with each outcome, and is found again.
-/
import Derived.Test.YtccjkchheanjmaaRows
import Derived.WalkKit
import Derived.ProofKit
import Derived.OpenShut
import Derived.ShutString
import Derived.ChangeOld
import Derived.Below
import Derived.Lib.Hide
import Derived.Test.YtccjkchheanjmaaGamesFacts
import Derived.Test.YtccjkchheanjmaaGamesImpl
import Derived.Deep.RegionHeld3
namespace Go.Proofs.Ytccjkchheanjmaa.fnGames
open Go.ChangeShapes Go.WideShapes Go.ChangeAt Go.RowKit
open Go.ChangeMaps (open_string shut_string)
set_option linter.unusedVariables false

theorem own : ownKnob Try.prog.godebug = none := by kernel_rfl
theorem laidOut : laidOutB Try.prog = true := by kernel_rfl
set_option maxRecDepth 100000 in
set_option maxHeartbeats 800000 in
theorem walk (a : Option Addr) (len cap : Nat) (zs : List Int) (w : World) (hr : IsRow .u8 w a len cap zs) :
    Calls Try.prog 3 #[.slice a len cap] w fun e w' => e = .returned (.bool true) ∧ Below w.heap.size w w' := by
  obtain ⟨hrow, hsm, hfit⟩ := hr.bytes
  clear hr
  generalize getN zs = g at *
  by_cases hl : 1048576 < len
  · have g0 : decide ((1048576 : Int) < (len : Int)) = true := decide_eq_true (by omega)
    clear hrow hsm
    go_enter Try.func3, Try.ntmps3
    go_wp2
    go_ret
    exact ⟨rfl, Below.refl _ _⟩
  have g0 : decide ((1048576 : Int) < (len : Int)) = false := decide_eq_false (by omega)
  have hle : len ≤ 1048576 := by omega
  have CM := Lib.hid (makeBook_any a len cap g w hrow hsm hle)
  clear hrow hsm
  go_enter Try.func3, Try.ntmps3
  go_wp2_with fail
  refine CM.out.mono ?_
  rintro e w1 ⟨n, b, vf, vl, vg, vfa, vta, ⟨hn3, hn5⟩, rfl, hgood, hown, b1⟩
  obtain ⟨a1, c1, a2, c2, a3, c3, a4, c4, a5, c5, rfl, rfl, rfl, rfl, rfl⟩ := hown.form
  obtain ⟨_, _, ⟨hsea, _, hgl⟩, _⟩ := hgood
  have gr1 := GameRow.of_list hown.2.2.1 (by omega)
  have GR1 := Lib.hid gr1
  have SL := Lib.hid hsea
  have B1 := Lib.hid b1
  have z1 := b1.size
  have SS := sea_season hsea (by omega) (by omega) (by omega)
  have CSO := Lib.hid (fun wa h => seasonOk_impl (n : Int) (.slice a3 b.games.length c3) b.games.length (getG b.games) true wa ⟨fun _ => SS, fun _ => rfl⟩ h)
  clear gr1 hsea hown b1 SS CM
  go_wp2_with fail
  refine (CSO.out _ (GR1.out.below ((Below.refl _ w1).alloc (Nat.le_refl _) _) (Nat.le_refl _))).mono ?_
  rintro e w2 ⟨rfl, b2⟩
  have bb2 := Lib.hid (BoxN.made b2 (B := w1.heap.size) rfl)
  have b2' := below_prev b2
  have gr2 := Lib.hid (GR1.out.below b2' (Nat.le_refl _))
  have hb2 := Lib.hid (B1.out.trans (b2'.mono z1))
  have cb6 := bb2.out.2 6 _ rfl
  clear b2 b2' GR1 B1 CSO
  go_wp2
  clear cb6
  go_loopw [24] (fun i wr => ∃ k : Nat, k ≤ b.games.length ∧ i = .int .i64 k ∧ Hid (BoxN wr w1.heap.size [.slice a1 n c1, .int .i64 b.win, .int .i64 1, .int .i64 0, .slice a2 b.lad.length c2, .bool b.ag, .slice a3 b.games.length c3, .slice a4 n c4, .slice a5 n c5]) ∧ Hid (GameRow wr (.slice a3 b.games.length c3) b.games.length (getG b.games)) ∧ Hid (Below w.heap.size w wr)) (fun i _ => b.games.length - (intOf i).toNat)
  case atStart => exact ⟨0, Nat.zero_le _, rfl, bb2, gr2, hb2⟩
  case round =>
    clear bb2 gr2 hb2
    obtain ⟨k, hk, rfl, bb, gr, hb⟩ := hrel
    by_cases hlt : k < b.games.length
    · have hG := sea_game SL.out (by omega) (by omega) k hlt
      have hF := sea_first SL.out k hlt
      generalize ht : getG b.games k = t at *
      have Ht := Lib.hid ht
      have HG := Lib.hid hG
      have HF := Lib.hid hF
      obtain ⟨bo, off, he, hcap, hcc⟩ : ∃ bo off, a3 = some ⟨bo, off, none⟩ ∧ b.games.length ≤ c3 ∧ CellsAt wr bo (off + k * 5) t.cells := by
        obtain ⟨aa, cap', he, _, hc⟩ := gr.out.form
        simp only [Value.slice.injEq, true_and] at he
        obtain ⟨bo, off, h1, h2, h3⟩ := hc (by omega)
        exact ⟨bo, off, he.1.trans h1, by omega, by rw [← ht]; exact h3 k hlt⟩
      subst he
      obtain ⟨q0, q1, q2, q3, q4⟩ := game_cells hcc
      have hzb : w.heap.size ≤ wr.heap.size := hb.out.size
      have hg0 : Below wr.heap.size wr (wr.alloc (.cells #[.int .i64 t.home, .int .i64 t.away, .int .i64 t.hg, .int .i64 t.ag, .int .i64 t.st] 33)) := (Below.refl _ _).alloc (Nat.le_refl _) _
      have bb0 := Lib.hid (bb.out.below hg0)
      have gr0 := Lib.hid (gr.out.below hg0 (Nat.le_refl _))
      have hb0 := Lib.hid (hb.out.trans (hg0.mono hzb))
      have bd0 := Lib.hid (BoxN.made (u := wr) (cs := #[.int .i64 t.home, .int .i64 t.away, .int .i64 t.hg, .int .i64 t.ag, .int .i64 t.st]) (t := 33) (Below.refl _ _) rfl)
      have cb6 := bb.out.2 6 _ rfl
      have hk9 : (k : Int) < b.games.length := by omega
      clear ht hG hF hcc hg0 bb gr hb
      go_wp2
      clear q0 q1 q2 q3 q4 cb6
      generalize hD : wr.heap.size = D at *
      clear hD hzb
      generalize wr.alloc (.cells #[.int .i64 t.home, .int .i64 t.away, .int .i64 t.hg, .int .i64 t.ag, .int .i64 t.st] 33) = wr2 at *
      obtain ⟨wo, rfl⟩ : ∃ wo : World, wo = wr2 := ⟨_, rfl⟩
      go_loopw [6] (fun ov wr => ∃ o : Nat, 1 ≤ o ∧ o ≤ 4 ∧ ov = .int .i64 o ∧ Hid (BoxN wr w1.heap.size [.slice a1 n c1, .int .i64 b.win, .int .i64 1, .int .i64 0, .slice a2 b.lad.length c2, .bool b.ag, .slice (some ⟨bo, off, none⟩) b.games.length c3, .slice a4 n c4, .slice a5 n c5]) ∧ Hid (BoxN wr D [.int .i64 t.home, .int .i64 t.away, .int .i64 t.hg, .int .i64 t.ag, .int .i64 t.st]) ∧ Hid (GameRow wr (.slice (some ⟨bo, off, none⟩) b.games.length c3) b.games.length (getG b.games)) ∧ Hid (Below w.heap.size w wr)) (fun ov _ => 4 - (intOf ov).toNat)
      case atStart => exact ⟨1, by omega, by omega, rfl, bb0, bd0, gr0, hb0⟩
      case round =>
        clear bb0 bd0 gr0 hb0
        obtain ⟨o, ho1, ho4, rfl, bb, bd, gr, hb⟩ := hrel
        by_cases ho : o < 4
        · have CP := Lib.hid (fun wa => playGame_impl t.home t.away t.hg t.ag t.st (o : Int) wa)
          have p1 := play_outcome t (o : Int) (by omega)
          have p2 := play_game (o : Int) (by omega) HG.out
          obtain ⟨p3, p4⟩ := play_teams t (o : Int)
          have p5 := play_closed t (o : Int) (by omega)
          rw [show (⟨t.home, t.away, t.hg, t.ag, t.st⟩ : GameD) = t from rfl] at CP
          generalize playD t (o : Int) = x at *
          have CO := Lib.hid (fun wa => outcomeOf_impl x.home x.away x.hg x.ag x.st wa)
          rw [show (⟨x.home, x.away, x.hg, x.ag, x.st⟩ : GameD) = x from rfl, p1] at CO
          have CG := Lib.hid (fun wa => gameOk_impl (n : Int) x.home x.away x.hg x.ag x.st true wa ⟨fun _ => p2, fun _ => rfl⟩)
          have CI := Lib.hid (fun wa => isOpen_impl x.home x.away x.hg x.ag x.st wa)
          rw [p5] at CI
          have e3 : (x.home != t.home) = false := by rw [p3]; simp
          have e4 : (x.away != t.away) = false := by rw [p4]; simp
          clear p1 p2 p3 p4 p5
          have d0 := bd.out.2 0 _ rfl
          have d1 := bd.out.2 1 _ rfl
          have d2 := bd.out.2 2 _ rfl
          have d3 := bd.out.2 3 _ rfl
          have d4 := bd.out.2 4 _ rfl
          have hz := hb.out.size
          go_wp2_with fail
          refine (CP.out _).mono ?_
          rintro e wp ⟨rfl, bp⟩
          simp only [GameD.val]
          have bb1 := Lib.hid (bb.out.below bp)
          have bd1 := Lib.hid (bd.out.below bp)
          have gr1 := Lib.hid (gr.out.below bp (Nat.le_refl _))
          have hb1 := Lib.hid (hb.out.trans (bp.mono hz))
          have hz1 := hb1.out.size
          clear bb bd gr hb bp d0 d1 d2 d3 d4 hz CP
          go_wp2_with fail
          refine (CO.out _).mono ?_
          rintro e wq ⟨rfl, bq⟩
          have bx2 := Lib.hid (BoxN.made bq (B := wp.heap.size) rfl)
          have bq' := below_prev bq
          have bb2 := Lib.hid (bb1.out.below bq')
          have bd2 := Lib.hid (bd1.out.below bq')
          have gr2 := Lib.hid (gr1.out.below bq' (Nat.le_refl _))
          have hb2 := Lib.hid (hb1.out.trans (bq'.mono hz1))
          have hz2 := hb2.out.size
          have x0 := bx2.out.2 0 _ rfl
          have x1 := bx2.out.2 1 _ rfl
          have x2 := bx2.out.2 2 _ rfl
          have x3 := bx2.out.2 3 _ rfl
          have x4 := bx2.out.2 4 _ rfl
          have f0 := bb2.out.2 0 _ rfl
          clear bb1 bd1 gr1 hb1 bq bq' hz1 CO
          go_wp2_with fail
          refine (CG.out _).mono ?_
          rintro e ws ⟨rfl, bs⟩
          have bx3 := Lib.hid (bx2.out.below bs)
          have bb3 := Lib.hid (bb2.out.below bs)
          have bd3 := Lib.hid (bd2.out.below bs)
          have gr3 := Lib.hid (gr2.out.below bs (Nat.le_refl _))
          have hb3 := Lib.hid (hb2.out.trans (bs.mono hz2))
          have hz3 := hb3.out.size
          clear x0 x1 x2 x3 x4 f0 bx2 bb2 bd2 gr2 hb2 bs hz2 CG
          have x0 := bx3.out.2 0 _ rfl
          have x1 := bx3.out.2 1 _ rfl
          have x2 := bx3.out.2 2 _ rfl
          have x3 := bx3.out.2 3 _ rfl
          have x4 := bx3.out.2 4 _ rfl
          go_wp2_with fail
          refine (CI.out _).mono ?_
          rintro e wt ⟨rfl, bt⟩
          have bx4 := Lib.hid (bx3.out.below bt)
          have bb4 := Lib.hid (bb3.out.below bt)
          have bd4 := Lib.hid (bd3.out.below bt)
          have gr4 := Lib.hid (gr3.out.below bt (Nat.le_refl _))
          have hb4 := Lib.hid (hb3.out.trans (bt.mono hz3))
          clear x0 x1 x2 x3 x4 bx3 bb3 bd3 gr3 hb3 bt hz3 CI
          have x0 := bx4.out.2 0 _ rfl
          have x1 := bx4.out.2 1 _ rfl
          have d0 := bd4.out.2 0 _ rfl
          have d1 := bd4.out.2 1 _ rfl
          go_wp2
          go_roundw
          case rel => exact ⟨o + 1, by omega, by omega, by go_num, bb4, bd4, gr4, hb4⟩
          case measure => simp [intOf]; omega
        · obtain rfl : o = 4 := by omega
          have d0 := bd.out.2 0 _ rfl
          have d1 := bd.out.2 1 _ rfl
          have f6 := bb.out.2 6 _ rfl
          have hz := hb.out.size
          have hb8 := idxL_len (fun i => betweenG t.home t.away (getG b.games i)) b.games.length
          have CB := Lib.hid (fun wa h => (gamesBetween_impl (.slice (some ⟨bo, off, none⟩) b.games.length c3) b.games.length (getG b.games) t.home t.away wa h (by omega)).mono fun _ _ h => IntsL.made h (by omega))
          go_wp2_with fail
          refine (CB.out _ gr.out).mono ?_
          rintro e wx ⟨v8, rfl, lr, _, bx⟩
          replace bb := bb.out.below bx
          replace bd := bd.out.below bx
          replace gr := gr.out.below bx (Nat.le_refl _)
          replace hb := hb.out.trans (bx.mono hz)
          obtain ⟨s8a, s8c, rfl, _⟩ := lr.form
          have CGO := Lib.hid (fun wa h => gameOf_impl (.slice (some ⟨bo, off, none⟩) b.games.length c3) b.games.length (getG b.games) t.home t.away wa h)
          rw [HF.out] at CGO
          have hm1 : hasP (getI (idxL (fun i => betweenG t.home t.away (getG b.games i)) b.games.length)) (k : Int) (idxL (fun i => betweenG t.home t.away (getG b.games i)) b.games.length).length := (hasP_mem _ _).2 ((idxL_mem (fun i => betweenG t.home t.away (getG b.games i)) k b.games.length).2 ⟨hlt, by show betweenG _ _ (getG b.games k) = true; rw [Ht.out]; simp [betweenG]⟩)
          have CH1 := Lib.hid (fun wa h => has_any (.slice s8a (idxL (fun i => betweenG t.home t.away (getG b.games i)) b.games.length).length s8c) (idxL (fun i => betweenG t.home t.away (getG b.games i)) b.games.length).length (getI (idxL (fun i => betweenG t.home t.away (getG b.games i)) b.games.length)) (k : Int) true wa ⟨fun _ => hm1, fun _ => rfl⟩ h)
          have CP0 := Lib.hid (fun wa => playGame_impl t.home t.away t.hg t.ag t.st 0 wa)
          rw [show (⟨t.home, t.away, t.hg, t.ag, t.st⟩ : GameD) = t from rfl, play_none] at CP0
          have ho8 := idxL_len (fun i => (getG b.games i).st == 0) b.games.length
          have COG := Lib.hid (fun wa h => (openGames_impl (.slice (some ⟨bo, off, none⟩) b.games.length c3) b.games.length (getG b.games) wa h (by omega)).mono fun _ _ h => IntsL.made h (by omega))
          have hm2 : (t.st == 0) = true ↔ hasP (getI (idxL (fun i => (getG b.games i).st == 0) b.games.length)) (k : Int) (idxL (fun i => (getG b.games i).st == 0) b.games.length).length := by
            rw [hasP_mem, idxL_mem]
            show _ ↔ k < _ ∧ ((getG b.games k).st == 0) = true
            rw [Ht.out]
            exact ⟨fun h => ⟨hlt, h⟩, fun h => h.2⟩
          have CH2 := Lib.hid (fun v9 wa h => has_any v9 (idxL (fun i => (getG b.games i).st == 0) b.games.length).length (getI (idxL (fun i => (getG b.games i).st == 0) b.games.length)) (k : Int) (t.st == 0) wa hm2 h)
          have CIO := Lib.hid (fun wa => isOpen_impl t.home t.away t.hg t.ag t.st wa)
          generalize hop : (t.st == 0) = op at *
          have HOP := Lib.hid hop
          simp only [GameD.val] at CP0
          clear hop hm1 hm2 bx hz d0 d1 f6 CB hb8 ho8
          go_wp2
          obtain ⟨S, HSd⟩ : ∃ S : World → Prop, S = fun w' => BoxN w' w1.heap.size [.slice a1 n c1, .int .i64 b.win, .int .i64 1, .int .i64 0, .slice a2 b.lad.length c2, .bool b.ag, .slice (some ⟨bo, off, none⟩) b.games.length c3, .slice a4 n c4, .slice a5 n c5] ∧ BoxN w' D [.int .i64 t.home, .int .i64 t.away, .int .i64 t.hg, .int .i64 t.ag, .int .i64 t.st] ∧ GameRow w' (.slice (some ⟨bo, off, none⟩) b.games.length c3) b.games.length (getG b.games) ∧ IntRow w' (.slice s8a (idxL (fun i => betweenG t.home t.away (getG b.games i)) b.games.length).length s8c) (idxL (fun i => betweenG t.home t.away (getG b.games i)) b.games.length).length (getI (idxL (fun i => betweenG t.home t.away (getG b.games i)) b.games.length)) ∧ Below w.heap.size w w' := ⟨_, rfl⟩
          have KS : Hid (∀ wa wb, S wa → Below wa.heap.size wa wb → S wb) := by subst HSd; exact fun wa wb ⟨bb, bd, gr, lr, hb⟩ b0 => ⟨bb.below b0, bd.below b0, gr.below b0 (Nat.le_refl _), lr.below b0 (Nat.le_refl _), hb.trans (b0.mono hb.size)⟩
          have OS : Hid (∀ wa, S wa → BoxN wa w1.heap.size [.slice a1 n c1, .int .i64 b.win, .int .i64 1, .int .i64 0, .slice a2 b.lad.length c2, .bool b.ag, .slice (some ⟨bo, off, none⟩) b.games.length c3, .slice a4 n c4, .slice a5 n c5] ∧ BoxN wa D [.int .i64 t.home, .int .i64 t.away, .int .i64 t.hg, .int .i64 t.ag, .int .i64 t.st] ∧ GameRow wa (.slice (some ⟨bo, off, none⟩) b.games.length c3) b.games.length (getG b.games) ∧ IntRow wa (.slice s8a (idxL (fun i => betweenG t.home t.away (getG b.games i)) b.games.length).length s8c) (idxL (fun i => betweenG t.home t.away (getG b.games i)) b.games.length).length (getI (idxL (fun i => betweenG t.home t.away (getG b.games i)) b.games.length)) ∧ Below w.heap.size w wa) := by subst HSd; exact fun wa h => h
          have KS0 : Hid (S wx.drew) := by subst HSd; exact (fun (b0 : Below wx.heap.size wx wx.drew) => ⟨bb.below b0, bd.below b0, gr.below b0 (Nat.le_refl _), lr.below b0 (Nat.le_refl _), hb.trans (b0.mono hb.size)⟩) (Below.refl _ _).drew
          clear HSd
          go_wp2_with fail
          refine wp_region_held_drew (S := S) (by kernel_rfl) ?_ (fun hHeld => ?_)
          · exact KS0.out
          clear KS0 bb bd gr lr hb
          refine wpAnyH_take (i := 0) (v := ?_) rfl (by kernel_rfl) (by kernel_rfl) (by kernel_rfl) (fun _ _ _ h => h) (Or.inl ⟨by rfl, ?_⟩) (by assumption) ?_
          rotate_left
          · (intro wa hSw; obtain ⟨bb, bd, gr, lr, hb⟩ := OS.out _ hSw; have cb0 := bb.2 0 _ rfl; have cb1 := bb.2 1 _ rfl; have cb2 := bb.2 2 _ rfl; have cb3 := bb.2 3 _ rfl; have cb4 := bb.2 4 _ rfl; have cb5 := bb.2 5 _ rfl; have cb6 := bb.2 6 _ rfl; have cb7 := bb.2 7 _ rfl; have cb8 := bb.2 8 _ rfl; have cd0 := bd.2 0 _ rfl; have cd1 := bd.2 1 _ rfl; have cd2 := bd.2 2 _ rfl; have cd3 := bd.2 3 _ rfl; have cd4 := bd.2 4 _ rfl; go_simp; try with_reducible rfl)
          simp only [Act.put, List.getElem_toArray, List.getElem_cons_zero, List.setIfInBounds_toArray, List.set_cons_zero, List.set_cons_succ]
          refine wpAnyH_take (i := 1) (v := ?_) rfl (by kernel_rfl) (by kernel_rfl) (by kernel_rfl) (fun _ _ _ h => h) (Or.inl ⟨by rfl, ?_⟩) (by assumption) ?_
          rotate_left
          · (intro wa hSw; obtain ⟨bb, bd, gr, lr, hb⟩ := OS.out _ hSw; have cb0 := bb.2 0 _ rfl; have cb1 := bb.2 1 _ rfl; have cb2 := bb.2 2 _ rfl; have cb3 := bb.2 3 _ rfl; have cb4 := bb.2 4 _ rfl; have cb5 := bb.2 5 _ rfl; have cb6 := bb.2 6 _ rfl; have cb7 := bb.2 7 _ rfl; have cb8 := bb.2 8 _ rfl; have cd0 := bd.2 0 _ rfl; have cd1 := bd.2 1 _ rfl; have cd2 := bd.2 2 _ rfl; have cd3 := bd.2 3 _ rfl; have cd4 := bd.2 4 _ rfl; go_simp; try with_reducible rfl)
          simp only [Act.put, List.getElem_toArray, List.getElem_cons_zero, List.getElem_cons_succ, List.setIfInBounds_toArray, List.set_cons_zero, List.set_cons_succ]
          refine wpAnyH_take (i := 2) (v := ?_) rfl (by kernel_rfl) (by kernel_rfl) (by kernel_rfl) (fun _ _ _ h => h) (Or.inl ⟨by rfl, ?_⟩) (by assumption) ?_
          rotate_left
          · (intro wa hSw; obtain ⟨bb, bd, gr, lr, hb⟩ := OS.out _ hSw; have cb0 := bb.2 0 _ rfl; have cb1 := bb.2 1 _ rfl; have cb2 := bb.2 2 _ rfl; have cb3 := bb.2 3 _ rfl; have cb4 := bb.2 4 _ rfl; have cb5 := bb.2 5 _ rfl; have cb6 := bb.2 6 _ rfl; have cb7 := bb.2 7 _ rfl; have cb8 := bb.2 8 _ rfl; have cd0 := bd.2 0 _ rfl; have cd1 := bd.2 1 _ rfl; have cd2 := bd.2 2 _ rfl; have cd3 := bd.2 3 _ rfl; have cd4 := bd.2 4 _ rfl; go_simp; try with_reducible rfl)
          simp only [Act.put, List.getElem_toArray, List.getElem_cons_zero, List.getElem_cons_succ, List.setIfInBounds_toArray, List.set_cons_zero, List.set_cons_succ]
          refine wpAnyH_take (i := 3) (v := ?_) rfl (by kernel_rfl) (by kernel_rfl) (by kernel_rfl) (fun _ _ _ h => h) (Or.inl ⟨by rfl, ?_⟩) (by assumption) ?_
          rotate_left
          · (intro wa hSw; obtain ⟨bb, bd, gr, lr, hb⟩ := OS.out _ hSw; have cb0 := bb.2 0 _ rfl; have cb1 := bb.2 1 _ rfl; have cb2 := bb.2 2 _ rfl; have cb3 := bb.2 3 _ rfl; have cb4 := bb.2 4 _ rfl; have cb5 := bb.2 5 _ rfl; have cb6 := bb.2 6 _ rfl; have cb7 := bb.2 7 _ rfl; have cb8 := bb.2 8 _ rfl; have cd0 := bd.2 0 _ rfl; have cd1 := bd.2 1 _ rfl; have cd2 := bd.2 2 _ rfl; have cd3 := bd.2 3 _ rfl; have cd4 := bd.2 4 _ rfl; go_simp; try with_reducible rfl)
          simp only [Act.put, List.getElem_toArray, List.getElem_cons_zero, List.getElem_cons_succ, List.setIfInBounds_toArray, List.set_cons_zero, List.set_cons_succ]
          refine wpAnyH_take (i := 4) (v := ?_) rfl (by kernel_rfl) (by kernel_rfl) (by kernel_rfl) (fun _ _ _ h => h) (Or.inl ⟨by rfl, ?_⟩) (by assumption) ?_
          rotate_left
          · (intro wa hSw; obtain ⟨bb, bd, gr, lr, hb⟩ := OS.out _ hSw; have cb0 := bb.2 0 _ rfl; have cb1 := bb.2 1 _ rfl; have cb2 := bb.2 2 _ rfl; have cb3 := bb.2 3 _ rfl; have cb4 := bb.2 4 _ rfl; have cb5 := bb.2 5 _ rfl; have cb6 := bb.2 6 _ rfl; have cb7 := bb.2 7 _ rfl; have cb8 := bb.2 8 _ rfl; have cd0 := bd.2 0 _ rfl; have cd1 := bd.2 1 _ rfl; have cd2 := bd.2 2 _ rfl; have cd3 := bd.2 3 _ rfl; have cd4 := bd.2 4 _ rfl; go_simp; try with_reducible rfl)
          simp only [Act.put, List.getElem_toArray, List.getElem_cons_zero, List.getElem_cons_succ, List.setIfInBounds_toArray, List.set_cons_zero, List.set_cons_succ]
          refine wpAnyH_take (i := 5) (v := ?_) rfl (by kernel_rfl) (by kernel_rfl) (by kernel_rfl) (fun _ _ _ h => h) (Or.inl ⟨by rfl, ?_⟩) (by assumption) ?_
          rotate_left
          · (intro wa hSw; obtain ⟨bb, bd, gr, lr, hb⟩ := OS.out _ hSw; have cb0 := bb.2 0 _ rfl; have cb1 := bb.2 1 _ rfl; have cb2 := bb.2 2 _ rfl; have cb3 := bb.2 3 _ rfl; have cb4 := bb.2 4 _ rfl; have cb5 := bb.2 5 _ rfl; have cb6 := bb.2 6 _ rfl; have cb7 := bb.2 7 _ rfl; have cb8 := bb.2 8 _ rfl; have cd0 := bd.2 0 _ rfl; have cd1 := bd.2 1 _ rfl; have cd2 := bd.2 2 _ rfl; have cd3 := bd.2 3 _ rfl; have cd4 := bd.2 4 _ rfl; go_simp; try with_reducible rfl)
          simp only [Act.put, List.getElem_toArray, List.getElem_cons_zero, List.getElem_cons_succ, List.setIfInBounds_toArray, List.set_cons_zero, List.set_cons_succ]
          refine wpAnyH_take (i := 7) (v := ?_) rfl (by kernel_rfl) (by kernel_rfl) (by kernel_rfl) (fun _ _ _ h => h) (Or.inl ⟨by rfl, ?_⟩) (by assumption) ?_
          rotate_left
          · (intro wa hSw; obtain ⟨bb, bd, gr, lr, hb⟩ := OS.out _ hSw; have cb0 := bb.2 0 _ rfl; have cb1 := bb.2 1 _ rfl; have cb2 := bb.2 2 _ rfl; have cb3 := bb.2 3 _ rfl; have cb4 := bb.2 4 _ rfl; have cb5 := bb.2 5 _ rfl; have cb6 := bb.2 6 _ rfl; have cb7 := bb.2 7 _ rfl; have cb8 := bb.2 8 _ rfl; have cd0 := bd.2 0 _ rfl; have cd1 := bd.2 1 _ rfl; have cd2 := bd.2 2 _ rfl; have cd3 := bd.2 3 _ rfl; have cd4 := bd.2 4 _ rfl; go_simp; try with_reducible rfl)
          simp only [Act.put, List.getElem_toArray, List.getElem_cons_zero, List.getElem_cons_succ, List.setIfInBounds_toArray, List.set_cons_zero, List.set_cons_succ]
          refine wpAnyH_ready (rs := [6]) (by kernel_rfl) (by simp) ?_
          refine AllReadyH.cons (o := _) rfl (fun K hK => ?_) AllReadyH.nil
          go_simp
          obtain ⟨bb, bd, gr, lr, hb⟩ := OS.out _ hHeld
          refine (CGO.out _ gr).mono ?_
          rintro e w101 ⟨rfl, b101⟩
          clear bb bd gr lr hb
          (try go_wp2_with fail)
          refine hK.out _ _ ?_ (fun hHeld101 => ?_)
          · exact KS.out _ _ hHeld b101
          clear hK K
          refine wpAnyH_take (i := 8) (v := ?_) rfl (by kernel_rfl) (by kernel_rfl) (by kernel_rfl) (fun _ _ _ h => h) (Or.inl ⟨by rfl, ?_⟩) (by assumption) ?_
          rotate_left
          · (intro wa hSw; obtain ⟨bb, bd, gr, lr, hb⟩ := OS.out _ hSw; have cb0 := bb.2 0 _ rfl; have cb1 := bb.2 1 _ rfl; have cb2 := bb.2 2 _ rfl; have cb3 := bb.2 3 _ rfl; have cb4 := bb.2 4 _ rfl; have cb5 := bb.2 5 _ rfl; have cb6 := bb.2 6 _ rfl; have cb7 := bb.2 7 _ rfl; have cb8 := bb.2 8 _ rfl; have cd0 := bd.2 0 _ rfl; have cd1 := bd.2 1 _ rfl; have cd2 := bd.2 2 _ rfl; have cd3 := bd.2 3 _ rfl; have cd4 := bd.2 4 _ rfl; go_simp; try with_reducible rfl)
          simp only [Act.put, List.getElem_toArray, List.getElem_cons_zero, List.getElem_cons_succ, List.setIfInBounds_toArray, List.set_cons_zero, List.set_cons_succ]
          refine wpAnyH_take (i := 9) (v := ?_) rfl (by kernel_rfl) (by kernel_rfl) (by kernel_rfl) (fun _ _ _ h => h) (Or.inl ⟨by rfl, ?_⟩) (by assumption) ?_
          rotate_left
          · (intro wa hSw; obtain ⟨bb, bd, gr, lr, hb⟩ := OS.out _ hSw; have cb0 := bb.2 0 _ rfl; have cb1 := bb.2 1 _ rfl; have cb2 := bb.2 2 _ rfl; have cb3 := bb.2 3 _ rfl; have cb4 := bb.2 4 _ rfl; have cb5 := bb.2 5 _ rfl; have cb6 := bb.2 6 _ rfl; have cb7 := bb.2 7 _ rfl; have cb8 := bb.2 8 _ rfl; have cd0 := bd.2 0 _ rfl; have cd1 := bd.2 1 _ rfl; have cd2 := bd.2 2 _ rfl; have cd3 := bd.2 3 _ rfl; have cd4 := bd.2 4 _ rfl; go_simp; try with_reducible rfl)
          simp only [Act.put, List.getElem_toArray, List.getElem_cons_zero, List.getElem_cons_succ, List.setIfInBounds_toArray, List.set_cons_zero, List.set_cons_succ]
          refine wpAnyH_take (i := 10) (v := ?_) rfl (by kernel_rfl) (by kernel_rfl) (by kernel_rfl) (fun _ _ _ h => h) (Or.inl ⟨by rfl, ?_⟩) (by assumption) ?_
          rotate_left
          · (intro wa hSw; obtain ⟨bb, bd, gr, lr, hb⟩ := OS.out _ hSw; have cb0 := bb.2 0 _ rfl; have cb1 := bb.2 1 _ rfl; have cb2 := bb.2 2 _ rfl; have cb3 := bb.2 3 _ rfl; have cb4 := bb.2 4 _ rfl; have cb5 := bb.2 5 _ rfl; have cb6 := bb.2 6 _ rfl; have cb7 := bb.2 7 _ rfl; have cb8 := bb.2 8 _ rfl; have cd0 := bd.2 0 _ rfl; have cd1 := bd.2 1 _ rfl; have cd2 := bd.2 2 _ rfl; have cd3 := bd.2 3 _ rfl; have cd4 := bd.2 4 _ rfl; go_simp; try with_reducible rfl)
          simp only [Act.put, List.getElem_toArray, List.getElem_cons_zero, List.getElem_cons_succ, List.setIfInBounds_toArray, List.set_cons_zero, List.set_cons_succ]
          refine wpAnyH_take (i := 11) (v := ?_) rfl (by kernel_rfl) (by kernel_rfl) (by kernel_rfl) (fun _ _ _ h => h) (Or.inl ⟨by rfl, ?_⟩) (by assumption) ?_
          rotate_left
          · (intro wa hSw; obtain ⟨bb, bd, gr, lr, hb⟩ := OS.out _ hSw; have cb0 := bb.2 0 _ rfl; have cb1 := bb.2 1 _ rfl; have cb2 := bb.2 2 _ rfl; have cb3 := bb.2 3 _ rfl; have cb4 := bb.2 4 _ rfl; have cb5 := bb.2 5 _ rfl; have cb6 := bb.2 6 _ rfl; have cb7 := bb.2 7 _ rfl; have cb8 := bb.2 8 _ rfl; have cd0 := bd.2 0 _ rfl; have cd1 := bd.2 1 _ rfl; have cd2 := bd.2 2 _ rfl; have cd3 := bd.2 3 _ rfl; have cd4 := bd.2 4 _ rfl; go_simp; try with_reducible rfl)
          simp only [Act.put, List.getElem_toArray, List.getElem_cons_zero, List.getElem_cons_succ, List.setIfInBounds_toArray, List.set_cons_zero, List.set_cons_succ]
          refine wpAnyH_ready (rs := [12]) (by kernel_rfl) (by simp) ?_
          refine AllReadyH.cons (o := _) rfl (fun K hK => ?_) AllReadyH.nil
          go_simp
          obtain ⟨bb, bd, gr, lr, hb⟩ := OS.out _ hHeld101
          refine (CH1.out _ lr).mono ?_
          rintro e w102 ⟨rfl, b102⟩
          clear bb bd gr lr hb
          (try go_wp2_with fail)
          refine hK.out _ _ ?_ (fun hHeld102 => ?_)
          · exact KS.out _ _ hHeld101 b102
          clear hK K
          clear hHeld101
          refine wpAnyH_take (i := 13) (v := ?_) rfl (by kernel_rfl) (by kernel_rfl) (by kernel_rfl) (fun _ _ _ h => h) (Or.inl ⟨by rfl, ?_⟩) (by assumption) ?_
          rotate_left
          · (intro wa hSw; obtain ⟨bb, bd, gr, lr, hb⟩ := OS.out _ hSw; have cb0 := bb.2 0 _ rfl; have cb1 := bb.2 1 _ rfl; have cb2 := bb.2 2 _ rfl; have cb3 := bb.2 3 _ rfl; have cb4 := bb.2 4 _ rfl; have cb5 := bb.2 5 _ rfl; have cb6 := bb.2 6 _ rfl; have cb7 := bb.2 7 _ rfl; have cb8 := bb.2 8 _ rfl; have cd0 := bd.2 0 _ rfl; have cd1 := bd.2 1 _ rfl; have cd2 := bd.2 2 _ rfl; have cd3 := bd.2 3 _ rfl; have cd4 := bd.2 4 _ rfl; go_simp; try with_reducible rfl)
          simp only [Act.put, List.getElem_toArray, List.getElem_cons_zero, List.getElem_cons_succ, List.setIfInBounds_toArray, List.set_cons_zero, List.set_cons_succ]
          refine wpAnyH_take (i := 14) (v := ?_) rfl (by kernel_rfl) (by kernel_rfl) (by kernel_rfl) (fun _ _ _ h => h) (Or.inl ⟨by rfl, ?_⟩) (by assumption) ?_
          rotate_left
          · (intro wa hSw; obtain ⟨bb, bd, gr, lr, hb⟩ := OS.out _ hSw; have cb0 := bb.2 0 _ rfl; have cb1 := bb.2 1 _ rfl; have cb2 := bb.2 2 _ rfl; have cb3 := bb.2 3 _ rfl; have cb4 := bb.2 4 _ rfl; have cb5 := bb.2 5 _ rfl; have cb6 := bb.2 6 _ rfl; have cb7 := bb.2 7 _ rfl; have cb8 := bb.2 8 _ rfl; have cd0 := bd.2 0 _ rfl; have cd1 := bd.2 1 _ rfl; have cd2 := bd.2 2 _ rfl; have cd3 := bd.2 3 _ rfl; have cd4 := bd.2 4 _ rfl; go_simp; try with_reducible rfl)
          simp only [Act.put, List.getElem_toArray, List.getElem_cons_zero, List.getElem_cons_succ, List.setIfInBounds_toArray, List.set_cons_zero, List.set_cons_succ]
          refine wpAnyH_take (i := 15) (v := ?_) rfl (by kernel_rfl) (by kernel_rfl) (by kernel_rfl) (fun _ _ _ h => h) (Or.inl ⟨by rfl, ?_⟩) (by assumption) ?_
          rotate_left
          · (intro wa hSw; obtain ⟨bb, bd, gr, lr, hb⟩ := OS.out _ hSw; have cb0 := bb.2 0 _ rfl; have cb1 := bb.2 1 _ rfl; have cb2 := bb.2 2 _ rfl; have cb3 := bb.2 3 _ rfl; have cb4 := bb.2 4 _ rfl; have cb5 := bb.2 5 _ rfl; have cb6 := bb.2 6 _ rfl; have cb7 := bb.2 7 _ rfl; have cb8 := bb.2 8 _ rfl; have cd0 := bd.2 0 _ rfl; have cd1 := bd.2 1 _ rfl; have cd2 := bd.2 2 _ rfl; have cd3 := bd.2 3 _ rfl; have cd4 := bd.2 4 _ rfl; go_simp; try with_reducible rfl)
          simp only [Act.put, List.getElem_toArray, List.getElem_cons_zero, List.getElem_cons_succ, List.setIfInBounds_toArray, List.set_cons_zero, List.set_cons_succ]
          refine wpAnyH_take (i := 16) (v := ?_) rfl (by kernel_rfl) (by kernel_rfl) (by kernel_rfl) (fun _ _ _ h => h) (Or.inl ⟨by rfl, ?_⟩) (by assumption) ?_
          rotate_left
          · (intro wa hSw; obtain ⟨bb, bd, gr, lr, hb⟩ := OS.out _ hSw; have cb0 := bb.2 0 _ rfl; have cb1 := bb.2 1 _ rfl; have cb2 := bb.2 2 _ rfl; have cb3 := bb.2 3 _ rfl; have cb4 := bb.2 4 _ rfl; have cb5 := bb.2 5 _ rfl; have cb6 := bb.2 6 _ rfl; have cb7 := bb.2 7 _ rfl; have cb8 := bb.2 8 _ rfl; have cd0 := bd.2 0 _ rfl; have cd1 := bd.2 1 _ rfl; have cd2 := bd.2 2 _ rfl; have cd3 := bd.2 3 _ rfl; have cd4 := bd.2 4 _ rfl; go_simp; try with_reducible rfl)
          simp only [Act.put, List.getElem_toArray, List.getElem_cons_zero, List.getElem_cons_succ, List.setIfInBounds_toArray, List.set_cons_zero, List.set_cons_succ]
          refine wpAnyH_take (i := 18) (v := ?_) rfl (by kernel_rfl) (by kernel_rfl) (by kernel_rfl) (fun _ _ _ h => h) (Or.inl ⟨by rfl, ?_⟩) (by assumption) ?_
          rotate_left
          · (intro wa hSw; obtain ⟨bb, bd, gr, lr, hb⟩ := OS.out _ hSw; have cb0 := bb.2 0 _ rfl; have cb1 := bb.2 1 _ rfl; have cb2 := bb.2 2 _ rfl; have cb3 := bb.2 3 _ rfl; have cb4 := bb.2 4 _ rfl; have cb5 := bb.2 5 _ rfl; have cb6 := bb.2 6 _ rfl; have cb7 := bb.2 7 _ rfl; have cb8 := bb.2 8 _ rfl; have cd0 := bd.2 0 _ rfl; have cd1 := bd.2 1 _ rfl; have cd2 := bd.2 2 _ rfl; have cd3 := bd.2 3 _ rfl; have cd4 := bd.2 4 _ rfl; go_simp; try with_reducible rfl)
          simp only [Act.put, List.getElem_toArray, List.getElem_cons_zero, List.getElem_cons_succ, List.setIfInBounds_toArray, List.set_cons_zero, List.set_cons_succ]
          refine wpAnyH_ready (rs := [17]) (by kernel_rfl) (by simp) ?_
          refine AllReadyH.cons (o := _) rfl (fun K hK => ?_) AllReadyH.nil
          go_simp
          obtain ⟨bb, bd, gr, lr, hb⟩ := OS.out _ hHeld102
          refine (CP0.out _).mono ?_
          rintro e w103 ⟨rfl, b103⟩
          clear bb bd gr lr hb
          (try go_wp2_with fail)
          refine hK.out _ _ ?_ (fun hHeld103 => ?_)
          · exact KS.out _ _ hHeld102 b103
          clear hK K
          clear hHeld102
          refine wpAnyH_take (i := 19) (v := ?_) rfl (by kernel_rfl) (by kernel_rfl) (by kernel_rfl) (fun _ _ _ h => h) (Or.inl ⟨by rfl, ?_⟩) (by assumption) ?_
          rotate_left
          · (intro wa hSw; obtain ⟨bb, bd, gr, lr, hb⟩ := OS.out _ hSw; have cb0 := bb.2 0 _ rfl; have cb1 := bb.2 1 _ rfl; have cb2 := bb.2 2 _ rfl; have cb3 := bb.2 3 _ rfl; have cb4 := bb.2 4 _ rfl; have cb5 := bb.2 5 _ rfl; have cb6 := bb.2 6 _ rfl; have cb7 := bb.2 7 _ rfl; have cb8 := bb.2 8 _ rfl; have cd0 := bd.2 0 _ rfl; have cd1 := bd.2 1 _ rfl; have cd2 := bd.2 2 _ rfl; have cd3 := bd.2 3 _ rfl; have cd4 := bd.2 4 _ rfl; go_simp; try with_reducible rfl)
          simp only [Act.put, List.getElem_toArray, List.getElem_cons_zero, List.getElem_cons_succ, List.setIfInBounds_toArray, List.set_cons_zero, List.set_cons_succ]
          refine wpAnyH_take (i := 20) (v := ?_) rfl (by kernel_rfl) (by kernel_rfl) (by kernel_rfl) (fun _ _ _ h => h) (Or.inl ⟨by rfl, ?_⟩) (by assumption) ?_
          rotate_left
          · (intro wa hSw; obtain ⟨bb, bd, gr, lr, hb⟩ := OS.out _ hSw; have cb0 := bb.2 0 _ rfl; have cb1 := bb.2 1 _ rfl; have cb2 := bb.2 2 _ rfl; have cb3 := bb.2 3 _ rfl; have cb4 := bb.2 4 _ rfl; have cb5 := bb.2 5 _ rfl; have cb6 := bb.2 6 _ rfl; have cb7 := bb.2 7 _ rfl; have cb8 := bb.2 8 _ rfl; have cd0 := bd.2 0 _ rfl; have cd1 := bd.2 1 _ rfl; have cd2 := bd.2 2 _ rfl; have cd3 := bd.2 3 _ rfl; have cd4 := bd.2 4 _ rfl; go_simp; try with_reducible rfl)
          simp only [Act.put, List.getElem_toArray, List.getElem_cons_zero, List.getElem_cons_succ, List.setIfInBounds_toArray, List.set_cons_zero, List.set_cons_succ]
          refine wpAnyH_take (i := 21) (v := ?_) rfl (by kernel_rfl) (by kernel_rfl) (by kernel_rfl) (fun _ _ _ h => h) (Or.inl ⟨by rfl, ?_⟩) (by assumption) ?_
          rotate_left
          · (intro wa hSw; obtain ⟨bb, bd, gr, lr, hb⟩ := OS.out _ hSw; have cb0 := bb.2 0 _ rfl; have cb1 := bb.2 1 _ rfl; have cb2 := bb.2 2 _ rfl; have cb3 := bb.2 3 _ rfl; have cb4 := bb.2 4 _ rfl; have cb5 := bb.2 5 _ rfl; have cb6 := bb.2 6 _ rfl; have cb7 := bb.2 7 _ rfl; have cb8 := bb.2 8 _ rfl; have cd0 := bd.2 0 _ rfl; have cd1 := bd.2 1 _ rfl; have cd2 := bd.2 2 _ rfl; have cd3 := bd.2 3 _ rfl; have cd4 := bd.2 4 _ rfl; go_simp; try with_reducible rfl)
          simp only [Act.put, List.getElem_toArray, List.getElem_cons_zero, List.getElem_cons_succ, List.setIfInBounds_toArray, List.set_cons_zero, List.set_cons_succ]
          refine wpAnyH_take (i := 22) (v := ?_) rfl (by kernel_rfl) (by kernel_rfl) (by kernel_rfl) (fun _ _ _ h => h) (Or.inl ⟨by rfl, ?_⟩) (by assumption) ?_
          rotate_left
          · (intro wa hSw; obtain ⟨bb, bd, gr, lr, hb⟩ := OS.out _ hSw; have cb0 := bb.2 0 _ rfl; have cb1 := bb.2 1 _ rfl; have cb2 := bb.2 2 _ rfl; have cb3 := bb.2 3 _ rfl; have cb4 := bb.2 4 _ rfl; have cb5 := bb.2 5 _ rfl; have cb6 := bb.2 6 _ rfl; have cb7 := bb.2 7 _ rfl; have cb8 := bb.2 8 _ rfl; have cd0 := bd.2 0 _ rfl; have cd1 := bd.2 1 _ rfl; have cd2 := bd.2 2 _ rfl; have cd3 := bd.2 3 _ rfl; have cd4 := bd.2 4 _ rfl; go_simp; try with_reducible rfl)
          simp only [Act.put, List.getElem_toArray, List.getElem_cons_zero, List.getElem_cons_succ, List.setIfInBounds_toArray, List.set_cons_zero, List.set_cons_succ]
          refine wpAnyH_take (i := 23) (v := ?_) rfl (by kernel_rfl) (by kernel_rfl) (by kernel_rfl) (fun _ _ _ h => h) (Or.inl ⟨by rfl, ?_⟩) (by assumption) ?_
          rotate_left
          · (intro wa hSw; obtain ⟨bb, bd, gr, lr, hb⟩ := OS.out _ hSw; have cb0 := bb.2 0 _ rfl; have cb1 := bb.2 1 _ rfl; have cb2 := bb.2 2 _ rfl; have cb3 := bb.2 3 _ rfl; have cb4 := bb.2 4 _ rfl; have cb5 := bb.2 5 _ rfl; have cb6 := bb.2 6 _ rfl; have cb7 := bb.2 7 _ rfl; have cb8 := bb.2 8 _ rfl; have cd0 := bd.2 0 _ rfl; have cd1 := bd.2 1 _ rfl; have cd2 := bd.2 2 _ rfl; have cd3 := bd.2 3 _ rfl; have cd4 := bd.2 4 _ rfl; go_simp; try with_reducible rfl)
          simp only [Act.put, List.getElem_toArray, List.getElem_cons_zero, List.getElem_cons_succ, List.setIfInBounds_toArray, List.set_cons_zero, List.set_cons_succ]
          refine wpAnyH_take (i := 25) (v := ?_) rfl (by kernel_rfl) (by kernel_rfl) (by kernel_rfl) (fun _ _ _ h => h) (Or.inl ⟨by rfl, ?_⟩) (by assumption) ?_
          rotate_left
          · (intro wa hSw; obtain ⟨bb, bd, gr, lr, hb⟩ := OS.out _ hSw; have cb0 := bb.2 0 _ rfl; have cb1 := bb.2 1 _ rfl; have cb2 := bb.2 2 _ rfl; have cb3 := bb.2 3 _ rfl; have cb4 := bb.2 4 _ rfl; have cb5 := bb.2 5 _ rfl; have cb6 := bb.2 6 _ rfl; have cb7 := bb.2 7 _ rfl; have cb8 := bb.2 8 _ rfl; have cd0 := bd.2 0 _ rfl; have cd1 := bd.2 1 _ rfl; have cd2 := bd.2 2 _ rfl; have cd3 := bd.2 3 _ rfl; have cd4 := bd.2 4 _ rfl; go_simp; try with_reducible rfl)
          simp only [Act.put, List.getElem_toArray, List.getElem_cons_zero, List.getElem_cons_succ, List.setIfInBounds_toArray, List.set_cons_zero, List.set_cons_succ]
          refine wpAnyH_take (i := 27) (v := ?_) rfl (by kernel_rfl) (by kernel_rfl) (by kernel_rfl) (fun _ _ _ h => h) (Or.inl ⟨by rfl, ?_⟩) (by assumption) ?_
          rotate_left
          · (intro wa hSw; obtain ⟨bb, bd, gr, lr, hb⟩ := OS.out _ hSw; have cb0 := bb.2 0 _ rfl; have cb1 := bb.2 1 _ rfl; have cb2 := bb.2 2 _ rfl; have cb3 := bb.2 3 _ rfl; have cb4 := bb.2 4 _ rfl; have cb5 := bb.2 5 _ rfl; have cb6 := bb.2 6 _ rfl; have cb7 := bb.2 7 _ rfl; have cb8 := bb.2 8 _ rfl; have cd0 := bd.2 0 _ rfl; have cd1 := bd.2 1 _ rfl; have cd2 := bd.2 2 _ rfl; have cd3 := bd.2 3 _ rfl; have cd4 := bd.2 4 _ rfl; go_simp; try with_reducible rfl)
          simp only [Act.put, List.getElem_toArray, List.getElem_cons_zero, List.getElem_cons_succ, List.setIfInBounds_toArray, List.set_cons_zero, List.set_cons_succ]
          refine wpAnyH_ready (rs := [24]) (by kernel_rfl) (by simp) ?_
          refine AllReadyH.cons (o := _) rfl (fun K hK => ?_) AllReadyH.nil
          go_simp
          obtain ⟨bb, bd, gr, lr, hb⟩ := OS.out _ hHeld103
          refine (COG.out _ gr).mono ?_
          rintro e w104 ⟨v9, rfl, r9, _, b104⟩
          clear bb bd gr lr hb
          (try go_wp2_with fail)
          refine hK.out _ _ ?_ (fun hHeld104 => ?_)
          · exact KS.out _ _ hHeld103 b104
          clear hK K
          clear hHeld103
          refine wpAnyH_ready (rs := [26]) (by kernel_rfl) (by simp) ?_
          refine AllReadyH.cons (o := _) rfl (fun K hK => ?_) AllReadyH.nil
          go_simp
          obtain ⟨bb, bd, gr, lr, hb⟩ := OS.out _ hHeld104
          refine (CH2.out v9 _ r9).mono ?_
          rintro e w105 ⟨rfl, b105⟩
          clear bb bd gr lr hb
          clear r9
          (try go_wp2_with fail)
          refine hK.out _ _ ?_ (fun hHeld105 => ?_)
          · exact KS.out _ _ hHeld104 b105
          clear hK K
          clear hHeld104
          refine wpAnyH_ready (rs := [28]) (by kernel_rfl) (by simp) ?_
          refine AllReadyH.cons (o := _) rfl (fun K hK => ?_) AllReadyH.nil
          go_simp
          obtain ⟨bb, bd, gr, lr, hb⟩ := OS.out _ hHeld105
          refine (CIO.out _).mono ?_
          rintro e w106 ⟨rfl, b106⟩
          clear bb bd gr lr hb
          (try go_wp2_with fail)
          refine hK.out _ _ ?_ (fun hHeld106 => ?_)
          · exact KS.out _ _ hHeld105 b106
          clear hK K
          clear hHeld105
          refine wpAnyH_take (i := 29) (v := ?_) rfl (by kernel_rfl) (by kernel_rfl) (by kernel_rfl) (fun _ _ _ h => h) (Or.inl ⟨by rfl, ?_⟩) (by assumption) ?_
          rotate_left
          · (intro wa hSw; obtain ⟨bb, bd, gr, lr, hb⟩ := OS.out _ hSw; have cb0 := bb.2 0 _ rfl; have cb1 := bb.2 1 _ rfl; have cb2 := bb.2 2 _ rfl; have cb3 := bb.2 3 _ rfl; have cb4 := bb.2 4 _ rfl; have cb5 := bb.2 5 _ rfl; have cb6 := bb.2 6 _ rfl; have cb7 := bb.2 7 _ rfl; have cb8 := bb.2 8 _ rfl; have cd0 := bd.2 0 _ rfl; have cd1 := bd.2 1 _ rfl; have cd2 := bd.2 2 _ rfl; have cd3 := bd.2 3 _ rfl; have cd4 := bd.2 4 _ rfl; go_simp; try with_reducible rfl)
          simp only [Act.put, List.getElem_toArray, List.getElem_cons_zero, List.getElem_cons_succ, List.setIfInBounds_toArray, List.set_cons_zero, List.set_cons_succ]
          refine wpAnyH_take (i := 30) (v := ?_) rfl (by kernel_rfl) (by kernel_rfl) (by kernel_rfl) (fun _ _ _ h => h) (Or.inl ⟨by rfl, ?_⟩) (by assumption) ?_
          rotate_left
          · (intro wa hSw; obtain ⟨bb, bd, gr, lr, hb⟩ := OS.out _ hSw; have cb0 := bb.2 0 _ rfl; have cb1 := bb.2 1 _ rfl; have cb2 := bb.2 2 _ rfl; have cb3 := bb.2 3 _ rfl; have cb4 := bb.2 4 _ rfl; have cb5 := bb.2 5 _ rfl; have cb6 := bb.2 6 _ rfl; have cb7 := bb.2 7 _ rfl; have cb8 := bb.2 8 _ rfl; have cd0 := bd.2 0 _ rfl; have cd1 := bd.2 1 _ rfl; have cd2 := bd.2 2 _ rfl; have cd3 := bd.2 3 _ rfl; have cd4 := bd.2 4 _ rfl; go_simp; try with_reducible rfl)
          simp only [Act.put, List.getElem_toArray, List.getElem_cons_zero, List.getElem_cons_succ, List.setIfInBounds_toArray, List.set_cons_zero, List.set_cons_succ]
          refine wpAnyH_done (by kernel_rfl) ?_ _
          obtain ⟨bb, bd, gr, lr, hb⟩ := OS.out _ hHeld106
          clear KS OS hHeld hHeld106
          go_wp2
          go_roundw
          case rel => exact ⟨k + 1, by omega, by go_num, bb, gr, hb⟩
          case measure => simp [intOf]; omega
    · obtain rfl : k = b.games.length := by omega
      go_wp2
      go_ret
      exact ⟨rfl, hb.out⟩

set_option maxRecDepth 100000 in
theorem lifted (os : Os) (started : os.Started) (H : Type) (enc : TypeId × Value → H) :
    ReturnsInHanded {} Try.checked os 3 .any (Rows.fnGamesSpec.pre6 enc Try.prog Try.f3 Rows.fnGamesRow.domain false) (Rows.fnGamesSpec.post enc Try.prog Try.f3 false true false false) := by
  refine returnsInHanded_of_change (C := Try.checked) own started (by kernel_rfl) Try.func3
    (ChangeSpec.witness6 (enc := enc) (C := Try.checked) false ⟨#[], #[.slice none 0 0], []⟩ 8 (by kernel_rfl) (by kernel_rfl) (by kernel_rfl) (by kernel_rfl)) ?_
  intro W base args ds gs before hval0 hW hcnd _
  have hval : ∀ (j : Nat) t v, Try.f3.params[j]? = some t → args[j]? = some v → Value.okWide Try.prog W .any base t v := hval0
  have hW' := hW
  obtain ⟨p, q, hA0, hV, rfl, hfz, hnd⟩ := hW
  have hA : DataW.TrodAll enc Try.prog W 0 (fun _ => true) true Try.f3.params.toList args.toList ds p := hA0
  rw [Try.params3] at hA hval
  obtain ⟨v0, vs0, d0, ds0, p0, q0, hargs, rfl, rfl, h0, r0⟩ := trodAll_cons hA
  obtain ⟨rfl, rfl, rfl⟩ := trodAll_nil r0
  obtain rfl : args = #[v0] := by cases args; simp_all
  obtain ⟨rfl, rfl⟩ := trodVars_none hV
  have k0 := h0
  have lt0 : ∀ x ∈ p0, x.block < W.heap.size := by obtain ⟨m, hm⟩ := k0; exact DataW.trod_lt m _ _ _ hm
  obtain ⟨a0, len0, cap0, rfl⟩ := okWide_slice Try.underlying22 (hval 0 22 v0 rfl rfl)
  obtain ⟨z0, w0⟩ : ∃ zs, IsRow .u8 W a0 len0 cap0 zs := by
    obtain ⟨fuel, hf⟩ := h0
    rcases open_ints Try.underlying22 Try.underlying5 (by kernel_rfl) hf with ⟨hcs, _⟩ | ⟨x, l, c, zs, hcs, _, hl, hm, hz, _, hcell, hwz⟩
    · simp [Value.cells] at hcs
      obtain ⟨rfl, rfl, rfl⟩ := hcs
      exact ⟨[], .inl ⟨rfl, rfl, rfl, rfl⟩⟩
    · simp [Value.cells] at hcs
      obtain ⟨rfl, rfl, rfl⟩ := hcs
      exact ⟨zs, .inr ⟨_, rfl, hl, hm, by simpa using hz, hcell, hwz⟩⟩
  clear hA0 hval0
  simp only [List.append_nil] at hW'
  refine (walk a0 len0 cap0 z0 W w0).mono fun e W' ⟨he, bel⟩ => ?_
  subst he
  exact ⟨_, rfl, _, _, _, [], _, [], hW', trodAll_mk1 (shut_bool Try.underlying4 _), (trodAll_cons_mk (Below.trod laidOut (by kernel_rfl) (of_decide_eq_true (by kernel_rfl)) k0 bel lt0) trodAll_mk0), rfl, bel.frame _, fun h => by cases h⟩

theorem over : Rows.fnGamesRow.holds Try.pinned (OpenSpec.ofChange Rows.fnGamesSpec) :=
  OpenClaim.holds_of_wide 3 Try.f3 rfl rfl rfl rfl rfl rfl rfl ⟨rfl, rfl, rfl, rfl, rfl⟩ rfl rfl rfl rfl rfl (by kernel_rfl) Try.func3 (by kernel_rfl)
    (of_decide_eq_true (by kernel_rfl)) (by unfold Func.isWrapper; first | (rw [if_pos (by decide +kernel)]; kernel_rfl) | (rw [if_neg (by decide +kernel)]; exact ⟨rfl, rfl⟩))
    (fun os started H enc _ => lifted os started H enc)

theorem proved : Rows.FnGamesSaid := over
end Go.Proofs.Ytccjkchheanjmaa.fnGames
