/-
  Packed: SeasonMake, SeasonMake2, Marks, Teams, Field, Num, IntFmt.
-/
import Derived.Deep.DeepCutAuto
import Derived.Test.YtojkonhhaamodaaProg
import Derived.WalkKit
import Derived.BigQuiet
import Derived.Deep.QuietTactic
import Derived.Lib.Hide
import Derived.Deep.RegionHeld3
import Derived.Outline
import Derived.Lib.ItoaNum
import Derived.Lib.AtoiAll
import Derived.Laws.BytesArg
import Derived.Deep.RegionWith
import Derived.WalkSmall
import Derived.Sort.Grow
import Derived.KernelRfl
import Derived.Test.YtojkonhhaamodaaQ1
import Derived.Test.YtojkonhhaamodaaQ2
set_option linter.unusedVariables false
namespace Go.Proofs.Ytojkonhhaamodaa
open Go.RowKit

theorem l01Pick_any (B : Nat) (a : Option Addr) (len cap : Nat) (g : Nat → Nat) (v : Value) (n : Nat) (gl : Nat → Int) (w : World) (hc : Cur B a len cap g w) (h0 : 0 < n) (hn : n ≤ 256) (hv : IntRow w v n gl) (hB : v.ownBlock ≠ some B) :
    Calls Try.prog 39 #[.pointer (some ⟨B, 0, none⟩), v] w fun e w' => (∃ x : Nat, x < n ∧ e = .returned (.int .i64 (gl x))) ∧ Cur B a len cap g w' ∧ w.grownBy w' (some B) := by
  rcases hv with ⟨_, _, _, h⟩ | ⟨b, off, c, rfl, _, hn2, hcell, hcap⟩
  · omega
  have C := Lib.hid (l01Below_small B a len cap g n w hc h0 hn)
  have HC := Lib.hid hcell
  have hbB : some b ≠ some B := hB
  clear hc hcell hB
  go_enter Try.func39, Try.ntmps39
  go_wp2_with fail
  refine C.out.mono ?_
  rintro e w1 ⟨x, hx, rfl, c1, g1⟩
  have c0 := g1.cell (HC.out x hx) hbB
  have C1 := Lib.hid c1
  have G1 := Lib.hid g1
  clear c1 g1
  generalize hz : gl x = z at *
  have Hz := Lib.hid hz
  clear hz
  go_wp2
  go_ret
  exact ⟨⟨x, hx, by rw [Hz.out]; rfl⟩, C1.out, G1.out⟩

def gcells (L : List GameD) : List Value := L.flatMap GameD.cells
theorem gcells_push (L : List GameD) (x : GameD) : gcells (L ++ [x]) = gcells L ++ x.cells := by simp [gcells]
/-- what a round of the making holds of the world: out holds the games L -/
def SeaS (B : Nat) (a : Option Addr) (len cap : Nat) (g : Nat → Nat) (w0 : World) (out : Value) (L : List GameD) (w : World) : Prop :=
  Cur B a len cap g w ∧ w.ownsRow w0.heap.size 37 5 out L.length (gcells L) ∧ w0.grownBy w (some B) ∧ B < w0.heap.size
/-- and block D holds the cells cs -/
def SeaB (B : Nat) (a : Option Addr) (len cap : Nat) (g : Nat → Nat) (w0 : World) (out : Value) (L : List GameD) (D : Nat) (cs : Array Value) (w : World) : Prop :=
  SeaS B a len cap g w0 out L w ∧ w.heap[D]? = some (.cells cs 37 (0, 0)) ∧ w0.heap.size ≤ D ∧ out.ownBlock ≠ some D
section
variable {B : Nat} {a : Option Addr} {len cap : Nat} {g : Nat → Nat} {w0 : World} {out : Value} {L : List GameD} {D : Nat} {cs : Array Value} {w w' : World}
theorem SeaS.below (h : SeaS B a len cap g w0 out L w) (hb : Below w.heap.size w w') : SeaS B a len cap g w0 out L w' :=
  ⟨h.1.belowW hb (Nat.lt_of_lt_of_le h.2.2.2 h.2.2.1.size), owns_below h.2.1 hb (Nat.le_refl _), grown_to h.2.2.1 hb, h.2.2.2⟩
theorem SeaS.drawn (h : SeaS B a len cap g w0 out L w) (hc : Cur B a len cap g w') (hg : w.grownBy w' (some B)) : SeaS B a len cap g w0 out L w' := by
  refine ⟨hc, h.2.1.kept hg ?_, grown_trans h.2.2.1 hg, h.2.2.2⟩
  cases hv : out.ownBlock with
  | none => exact .inl rfl
  | some k => exact .inr fun e => by have := (h.2.1.lt k hv).1; have := h.2.2.2; simp at e; omega
theorem SeaB.drawn (h : SeaB B a len cap g w0 out L D cs w) (hc : Cur B a len cap g w') (hg : w.grownBy w' (some B)) : SeaB B a len cap g w0 out L D cs w' := by
  have hD : D < w.heap.size := (Array.getElem?_eq_some_iff.1 h.2.1).1
  exact ⟨h.1.drawn hc hg, (hg.block D hD (by intro e; have := h.2.2.1; have := h.1.2.2.2; simp at e; omega)).trans h.2.1, h.2.2⟩
theorem SeaB.below (h : SeaB B a len cap g w0 out L D cs w) (hb : Below w.heap.size w w') : SeaB B a len cap g w0 out L D cs w' := by
  have hD : D < w.heap.size := (Array.getElem?_eq_some_iff.1 h.2.1).1
  exact ⟨h.1.below hb, (hb.block D hD).trans h.2.1, h.2.2⟩
theorem SeaB.start (h : SeaS B a len cap g w0 out L w) (cs : Array Value) : SeaB B a len cap g w0 out L w.heap.size cs (w.alloc (.cells cs 37)) := by
  refine ⟨h.below ((Below.refl _ _).alloc (Nat.le_refl _) _), heap_alloc_new w _, h.2.2.1.size, fun e => ?_⟩
  have := (h.2.1.lt _ e).2
  omega
theorem SeaB.set (h : SeaB B a len cap g w0 out L D cs w) (j : Nat) (u : Value) : SeaB B a len cap g w0 out L D (cs.setIfInBounds j u) (w.setCell ⟨D, j, none⟩ u) := by
  obtain ⟨⟨h1, h2, h3, h4⟩, h5, h6, h7⟩ := h
  have hs := h3.size
  refine ⟨⟨h1.belowW (base := w0.heap.size) ((Below.refl _ _).setCell h6 _) h4, h2.kept (grown_set w D j u) (.inr h7), ⟨h3.os, h3.tape, h3.output, by simpa [World.setCell] using hs, fun k hk hne => ?_⟩, h4⟩, ?_, h6, h7⟩
  · rw [Below.heap_setCell _ _ _ _ (by show k ≠ D; omega)]; exact h3.block k hk hne
  · rw [heap_setCell_same w D j _ _ _ h5]
theorem SeaB.cur (h : SeaB B a len cap g w0 out L D cs w) : Cur B a len cap g w := h.1.1
theorem SeaB.cell (h : SeaB B a len cap g w0 out L D cs w) (j : Nat) : w.cell? ⟨D, j, none⟩ = cs[j]? := cell_of_row w D j _ _ (0, 0) h.2.1
theorem SeaB.free (h : SeaB B a len cap g w0 out L D cs w) (j : Nat) : w.frozen? ⟨D, j, none⟩ = false := frozen_of_row w D j _ _ h.2.1
/-- the game in the block is appended -/
theorem SeaB.push {x : GameD} {v : Value} (h : SeaB B a len cap g w0 out L D x.cells.toArray w) (ho : w'.ownsRow w0.heap.size 37 5 v (L.length + 1) (gcells L ++ x.cells)) (hg : w.grownBy w' out.ownBlock) :
    SeaS B a len cap g w0 v (L ++ [x]) w' := by
  obtain ⟨⟨h1, h2, h3, h4⟩, _⟩ := h
  have hs := h3.size
  have hb : Below w0.heap.size w w' := (Below.refl _ _).grown hg hs (fun k hk => (h2.lt k hk).1)
  refine ⟨h1.belowW hb h4, ?_, ⟨hb.os.trans h3.os, hb.tape.trans h3.tape, hb.output.trans h3.output, Nat.le_trans hs hb.size, fun k hk hne => (hb.block k hk).trans (h3.block k hk hne)⟩, h4⟩
  rw [gcells_push]
  simpa using ho
end
/-- the games drawn so far: those of pairs before (lo, hi), each once; m are open -/
def SeaL (lo hi : Int) (L : List GameD) (m : Nat) : Prop :=
  (∀ t ∈ L, ((t.home < t.away ∧ 0 ≤ t.home ∧ (t.away < hi ∨ (t.away = hi ∧ t.home < lo))) ∨ (t.away < t.home ∧ 0 ≤ t.away ∧ (t.home < hi ∨ (t.home = hi ∧ t.away < lo)))) ∧
    (0 ≤ t.st ∧ t.st ≤ 4) ∧ ((t.st = 1 ∧ (0 ≤ t.hg ∧ t.hg ≤ 3) ∧ (0 ≤ t.ag ∧ t.ag ≤ 3)) ∨ (t.st ≠ 1 ∧ t.hg = 0 ∧ t.ag = 0))) ∧
  L.Pairwise (fun s t => ¬ (s.home = t.home ∧ s.away = t.away) ∧ ¬ (s.home = t.away ∧ s.away = t.home)) ∧ (L.filter fun t => t.st == 0).length = m ∧ (0 < lo ∨ 1 < hi → L ≠ [])
theorem SeaL.next {lo hi : Int} {L : List GameD} {m : Nat} {x : GameD} (h : SeaL lo hi L m) (h0 : 0 ≤ lo) (h1 : lo < hi) (hx : (x.home = lo ∧ x.away = hi) ∨ (x.home = hi ∧ x.away = lo)) (hst : 0 ≤ x.st ∧ x.st ≤ 4)
    (hg : (x.st = 1 ∧ (0 ≤ x.hg ∧ x.hg ≤ 3) ∧ (0 ≤ x.ag ∧ x.ag ≤ 3)) ∨ (x.st ≠ 1 ∧ x.hg = 0 ∧ x.ag = 0)) : SeaL (lo + 1) hi (L ++ [x]) (m + if x.st = 0 then 1 else 0) := by
  obtain ⟨ha, hp, hc, _⟩ := h
  refine ⟨fun t ht => ?_, ?_, ?_, fun _ => by simp⟩
  · rw [List.mem_append, List.mem_singleton] at ht
    rcases ht with ht | rfl
    · obtain ⟨k1, k2, k3⟩ := ha t ht
      exact ⟨by omega, k2, k3⟩
    · exact ⟨by omega, hst, hg⟩
  · rw [List.pairwise_append]
    refine ⟨hp, List.pairwise_singleton _ _, fun s hs t ht => ?_⟩
    rw [List.mem_singleton] at ht
    subst ht
    have := (ha s hs).1
    omega
  · rw [List.filter_append, List.length_append, hc]
    congr 1
    by_cases e : x.st = 0 <;> simp [e]
theorem SeaL.row {hi : Int} {L : List GameD} {m : Nat} (h : SeaL hi hi L m) : SeaL 0 (hi + 1) L m := by
  obtain ⟨ha, hp, hc, hq⟩ := h
  exact ⟨fun t ht => by obtain ⟨k1, k2, k3⟩ := ha t ht; exact ⟨by omega, k2, k3⟩, hp, hc, fun h => hq (.inl (by omega))⟩
def SeaMade (B : Nat) (a : Option Addr) (len cap : Nat) (g : Nat → Nat) (n opn : Nat) (w : World) (e : Ending) (w' : World) : Prop :=
  ∃ v L m, e = .returned v ∧ SeaL 0 n L m ∧ m ≤ opn ∧ L.length ≤ 8 * n ∧ w'.ownsRow w.heap.size 37 5 v L.length (gcells L) ∧ Cur B a len cap g w' ∧ w.grownBy w' (some B)
def pickG (i : Nat) : Int := match i with | 6 => 2 | 7 => 3 | 8 => 4 | _ => 1
theorem pickG_in (i : Nat) (h : i < 9) : 1 ≤ pickG i ∧ pickG i ≤ 4 := by
  have : i = 0 ∨ i = 1 ∨ i = 2 ∨ i = 3 ∨ i = 4 ∨ i = 5 ∨ i = 6 ∨ i = 7 ∨ i = 8 := by omega
  rcases this with rfl | rfl | rfl | rfl | rfl | rfl | rfl | rfl | rfl <;> decide
end Go.Proofs.Ytojkonhhaamodaa
set_option linter.unusedVariables false
namespace Go.Proofs.Ytojkonhhaamodaa
open Go.RowKit

theorem pick_row (w : World) : IntRow (w.alloc (.cells #[.int .i64 1, .int .i64 1, .int .i64 1, .int .i64 1, .int .i64 1, .int .i64 1, .int .i64 2, .int .i64 3, .int .i64 4] 3)) (.slice (some ⟨w.heap.size, 0, none⟩) 9 9) 9 pickG := by
  refine .inr ⟨w.heap.size, 0, 9, rfl, by omega, by omega, fun i hi => ?_, Nat.le_refl _⟩
  rw [Nat.zero_add, cell_of_row _ w.heap.size i _ _ (0, 0) (heap_alloc_new w _)]
  have : i = 0 ∨ i = 1 ∨ i = 2 ∨ i = 3 ∨ i = 4 ∨ i = 5 ∨ i = 6 ∨ i = 7 ∨ i = 8 := by omega
  rcases this with rfl | rfl | rfl | rfl | rfl | rfl | rfl | rfl | rfl <;> rfl
set_option maxRecDepth 100000 in
set_option maxHeartbeats 8000000 in
theorem l04Season_any (B : Nat) (a : Option Addr) (len cap : Nat) (g : Nat → Nat) (n opn : Nat) (w : World) (hc : Cur B a len cap g w) (hn : n ≤ 8) (h1 : 1 ≤ n) (ho : opn ≤ 1000) :
    Calls Try.prog 38 #[.pointer (some ⟨B, 0, none⟩), .int .i64 (n : Int), .int .i64 (opn : Int)] w (SeaMade B a len cap g n opn w) := by
  obtain ⟨i0, hi, hz0, hz1, hz2⟩ := info_parts Try.infoGame
  have hlB := hc.ltW
  have LO := Lib.hid (fun (m : Nat) w1 hc (h1 : 0 < m) (h2 : m ≤ 256) => l01Once_any B a len cap g m w1 hc h1 h2)
  have LB := Lib.hid (fun w1 hc => l01Below_small B a len cap g 4 w1 hc (by omega) (by omega))
  have LP := Lib.hid (fun v w1 hc hv hB => l01Pick_any B a len cap g v 9 pickG w1 hc (by omega) (by omega) hv hB)
  have S0 : SeaS B a len cap g w (.slice (some ⟨w.heap.size, 0, none⟩) 0 0) [] (w.alloc (.cells #[] 37)) :=
    ⟨hc.belowW ((Below.refl _ _).alloc (Nat.le_refl _) _) hlB, World.ownsRow_lit w #[] 0 (Nat.le_refl _) (by decide) rfl, World.grownBy_alloc _ _ _, hlB⟩
  have HS0 := Lib.hid S0
  clear hc S0
  go_enter Try.func38, Try.ntmps38
  go_wp2
  go_loopw [2, 7, 8] (fun ov out bv wr => ∃ (b o m : Nat) (L : List GameD), 1 ≤ b ∧ b ≤ n ∧ bv = .int .i64 b ∧ ov = .int .i64 o ∧ o + m = opn ∧ L.length ≤ 8 * b ∧ Hid (SeaL 0 b L m) ∧ Hid (SeaS B a len cap g w out L wr)) (fun _ _ bv _ => n - (intOf bv).toNat)
  case atStart => exact ⟨1, opn, 0, [], by omega, by omega, rfl, rfl, by omega, by simp, ⟨fun t ht => by simp at ht, List.Pairwise.nil, rfl, fun h => absurd h (by omega)⟩, HS0.out⟩
  case round =>
    clear HS0
    obtain ⟨b, o, m, L, hb1, hbn, rfl, rfl, hom, hLl, hL, hS⟩ := hrel
    by_cases hlt : b < n
    · obtain ⟨wo, rfl⟩ : ∃ wo : World, wo = wr := ⟨_, rfl⟩
      go_wp2
      go_loopw [2, 7, 9] (fun ov out av wr => ∃ (x o m : Nat) (L : List GameD), x ≤ b ∧ av = .int .i64 x ∧ ov = .int .i64 o ∧ o + m = opn ∧ L.length ≤ 8 * b + x ∧ Hid (SeaL x b L m) ∧ Hid (SeaS B a len cap g w out L wr)) (fun _ _ av _ => b - (intOf av).toNat)
      case atStart => exact ⟨0, o, m, L, by omega, rfl, rfl, hom, by omega, hL, hS⟩
      case round =>
        clear hL hS hLl hom
        obtain ⟨x, o, m, L, hxb, rfl, rfl, hom, hLl, hL, hS⟩ := hrel
        by_cases hxlt : x < b
        · have hB0 := Lib.hid (SeaB.start hS.out #[.int .i64 x, .int .i64 b, .int .i64 0, .int .i64 0, .int .i64 0])
          have hSz := hS.out.2.2.1.size
          have hL28 : L.length ≤ 72 := by omega
          go_wp2_with fail
          refine (LO.out 2 _ hB0.out.cur (by omega) (by omega)).mono ?_
          rintro e w2 ⟨⟨r, rfl⟩, c2, g2⟩
          have hB2 := Lib.hid (hB0.out.drawn c2 g2)
          have hDl : wr.heap.size < w2.heap.size := by have := (Array.getElem?_eq_some_iff.1 hB2.out.2.1).1; exact this
          generalize hD : wr.heap.size = D at *
          clear hD c2 g2 hB0 hS hSz
          go_upto_if 26 with fail
          go_cut [] (fun wx => ∃ hm aw : Int, Hid (SeaB B a len cap g w u7 L D #[.int .i64 hm, .int .i64 aw, .int .i64 0, .int .i64 0, .int .i64 0] wx) ∧ Hid ((hm = x ∧ aw = b) ∨ (hm = b ∧ aw = x)))
          case first =>
            cases r with
            | false =>
              go_wp2_with fail
              go_meet
              case rel => exact ⟨x, b, hB2, .inl ⟨rfl, rfl⟩⟩
            | true =>
              have k0 := hB2.out.cell 0
              have k1 := hB2.out.cell 1
              have k2 := hB2.out.cell 2
              have k3 := hB2.out.cell 3
              have k4 := hB2.out.cell 4
              have f0 := hB2.out.free 0
              have f1 := hB2.out.free 1
              have f2 := hB2.out.free 2
              have f3 := hB2.out.free 3
              have f4 := hB2.out.free 4
              have hB3 := Lib.hid (((((hB2.out.set 0 (.int .i64 b)).set 1 (.int .i64 x)).set 2 (.int .i64 0)).set 3 (.int .i64 0)).set 4 (.int .i64 0))
              go_wp2_with fail
              go_meet
              case rel => exact ⟨b, x, hB3, .inr ⟨rfl, rfl⟩⟩
          case rest =>
            obtain ⟨hm, aw, hB3, hpair⟩ := hcut
            clear hB2
            go_upto_region 11 with fail
            go_cut [35] (fun s35 wx => ∃ q : Bool, s35 = .bool q ∧ (q = true → 0 < o) ∧ Hid (SeaB B a len cap g w u7 L D #[.int .i64 hm, .int .i64 aw, .int .i64 0, .int .i64 0, .int .i64 0] wx))
            case first =>
              by_cases ho0 : 0 < o
              · have g9 : decide (0 < (o : Int)) = true := decide_eq_true (by omega)
                have g9' : decide (0 < o) = true := decide_eq_true ho0
                go_wp2_with fail
                refine (LO.out 3 _ hB3.out.cur (by omega) (by omega)).mono ?_
                rintro e w4 ⟨⟨q, rfl⟩, c4, g4⟩
                have hB4 := Lib.hid (hB3.out.drawn c4 g4)
                clear c4 g4
                go_wp2_with fail
                go_meet
                case rel => exact ⟨q, rfl, fun _ => ho0, hB4⟩
              · have g9 : decide (0 < (o : Int)) = false := decide_eq_false (by omega)
                have g9' : decide (0 < o) = false := decide_eq_false ho0
                go_wp2_with fail
                go_meet
                case rel => exact ⟨false, rfl, (fun h => by cases h), hB3⟩
            case rest =>
              obtain ⟨q, rfl, hq, hB4⟩ := hcut
              clear hB3
              go_upto_if 35 with fail
              go_cut [2] (fun s2 wx => ∃ (o2 : Nat) (st : Int), s2 = .int .i64 o2 ∧ (0 ≤ st ∧ st ≤ 4) ∧ Hid (o2 + (m + if st = 0 then 1 else 0) = opn) ∧ Hid (SeaB B a len cap g w u7 L D #[.int .i64 hm, .int .i64 aw, .int .i64 0, .int .i64 0, .int .i64 st] wx))
              case first =>
                cases q with
                | true =>
                  have ho0 := hq rfl
                  go_wp2_with fail
                  go_meet
                  case rel => exact ⟨o - 1, 0, by go_num, by omega, by show _ = _; simp; omega, hB4⟩
                | false =>
                  have hbl : ∀ (w1 : World), Below w1.heap.size w1 (w1.alloc (.cells #[.int .i64 1, .int .i64 1, .int .i64 1, .int .i64 1, .int .i64 1, .int .i64 1, .int .i64 2, .int .i64 3, .int .i64 4] 3)) := fun w1 => (Below.refl _ _).alloc (Nat.le_refl _) _
                  have hlB4 := hB4.out.cur.ltW
                  go_wp2_with fail
                  refine (LP.out _ _ (hB4.out.cur.belowW (hbl _) hlB4) (pick_row _) (by simp [Value.ownBlock]; omega)).mono ?_
                  rintro e w5 ⟨⟨i, hi9, rfl⟩, c5, g5⟩
                  have hB5 := Lib.hid ((hB4.out.below (hbl _)).drawn c5 g5)
                  obtain ⟨p1, p4⟩ := pickG_in i hi9
                  generalize pickG i = st at *
                  have k4 := hB5.out.cell 4
                  have f4 := hB5.out.free 4
                  have hB6 := Lib.hid (hB5.out.set 4 (.int .i64 st))
                  have HOM := Lib.hid hom
                  have hst0 : ¬ st = 0 := by omega
                  clear c5 g5 hbl
                  go_wp2_with fail
                  go_meet
                  case rel => exact ⟨o, st, rfl, by omega, by show _ = _; rw [if_neg hst0]; exact HOM.out, hB6⟩
              case rest =>
                obtain ⟨o2, st, rfl, hst, hom2, hB6⟩ := hcut
                clear hB4 hq hom
                have k4 := hB6.out.cell 4
                go_upto_if 44 with fail
                go_cut [] (fun wx => ∃ hg ag : Int, Hid (SeaB B a len cap g w u7 L D (GameD.cells ⟨hm, aw, hg, ag, st⟩).toArray wx) ∧ Hid ((st = 1 ∧ (0 ≤ hg ∧ hg ≤ 3) ∧ (0 ≤ ag ∧ ag ≤ 3)) ∨ (st ≠ 1 ∧ hg = 0 ∧ ag = 0)))
                case first =>
                  by_cases h1s : st = 1
                  · have g1s : (st == 1) = true := by simpa using h1s
                    have H1S := Lib.hid h1s
                    clear h1s
                    go_wp2_with fail
                    refine (LB.out _ hB6.out.cur).mono ?_
                    rintro e w7 ⟨y1, hy1, rfl, c7, g7⟩
                    have hB7 := Lib.hid (hB6.out.drawn c7 g7)
                    have k2 := hB7.out.cell 2
                    have f2 := hB7.out.free 2
                    have hB8 := Lib.hid (hB7.out.set 2 (.int .i64 y1))
                    clear c7 g7 k4
                    go_wp2_with fail
                    generalize w7.setCell ⟨D, 2, none⟩ (.int .i64 y1) = w8 at *
                    refine (LB.out _ hB8.out.cur).mono ?_
                    rintro e w9 ⟨y2, hy2, rfl, c9, g9⟩
                    have hB9 := Lib.hid (hB8.out.drawn c9 g9)
                    have k3 := hB9.out.cell 3
                    have f3 := hB9.out.free 3
                    have hB10 := Lib.hid (hB9.out.set 3 (.int .i64 y2))
                    clear c9 g9 k2 f2
                    go_wp2_with fail
                    go_meet
                    case rel => exact ⟨y1, y2, hB10, .inl ⟨H1S.out, by omega, by omega⟩⟩
                  · have g1s : (st == 1) = false := beq_eq_false_iff_ne.2 h1s
                    have H1S := Lib.hid h1s
                    clear h1s
                    go_wp2_with fail
                    go_meet
                    case rel => exact ⟨0, 0, hB6, .inr ⟨H1S.out, rfl, rfl⟩⟩
                case rest =>
                  obtain ⟨hgv, agv, hB7, hgl⟩ := hcut
                  clear hB6 k4
                  have k0 : wc.cell? ⟨D, 0, none⟩ = some (.int .i64 hm) := hB7.out.cell 0
                  have k1 : wc.cell? ⟨D, 1, none⟩ = some (.int .i64 aw) := hB7.out.cell 1
                  have k2 : wc.cell? ⟨D, 2, none⟩ = some (.int .i64 hgv) := hB7.out.cell 2
                  have k3 : wc.cell? ⟨D, 3, none⟩ = some (.int .i64 agv) := hB7.out.cell 3
                  have k4 : wc.cell? ⟨D, 4, none⟩ = some (.int .i64 st) := hB7.out.cell 4
                  have O7 := Lib.hid hB7.out.1.2.1
                  have hs7 : w.heap.size ≤ wc.heap.size := hB7.out.1.2.2.1.size
                  have hL2 := Lib.hid (hL.out.next (x := ⟨hm, aw, hgv, agv, st⟩) (by omega) (by omega) hpair.out hst hgl.out)
                  clear hL hpair hgl
                  go_wp2_with (at_builtin; refine wpList_pushL rfl (.tmp 51) (.tmp 53) 27 rfl w.heap.size 37 Try.underlying27 hi hz0 hz1 hz2 rfl (by decide) (GameD.cells ⟨hm, aw, hgv, agv, st⟩) rfl (by intro u hu; simp [GameD.cells] at hu; rcases hu with rfl | rfl | rfl | rfl | rfl <;> rfl) rfl rfl O7.out (by unfold maxLen; omega) (by omega) hs7 ?_; intro gg cc5 w10 o10 g10 at10 lt10; have S10 := Lib.hid (hB7.out.push o10 g10))
                  go_roundw
                  case rel => exact ⟨x + 1, o2, _, _, by omega, by go_num, rfl, hom2.out, by simp; omega, hL2, S10⟩
                  case measure => simp [intOf]; omega
        · obtain rfl : x = b := by omega
          have hL2 := Lib.hid hL.out.row
          clear hL
          go_wp2
          go_roundw
          case rel => exact ⟨x + 1, o, m, L, by omega, by omega, by go_num, rfl, hom, by omega, hL2, hS⟩
          case measure => simp [intOf]; omega
    · obtain rfl : b = n := by omega
      go_wp2
      go_ret
      exact ⟨_, L, m, rfl, hL.out, by omega, by omega, hS.out.2.1, hS.out.1, hS.out.2.2.1⟩
end Go.Proofs.Ytojkonhhaamodaa
set_option linter.unusedVariables false
namespace Go.Proofs.Ytojkonhhaamodaa
open Go.RowKit

/-- the digits that markText lays before out -/
def mkd : Nat → Nat → List UInt8 → List UInt8
  | 0, _, out => out
  | f + 1, k, out => if 0 < k then mkd f (k / 10) ((48 + UInt8.ofNat (k % 10)) :: out) else out
def mkT (k : Nat) : ByteArray := ⟨(109 :: mkd k k []).toArray⟩
theorem mkd_step (f k : Nat) (out : List UInt8) (h : 0 < k) : mkd (f + 1) k out = mkd f (k / 10) ((48 + UInt8.ofNat (k % 10)) :: out) := by
  simp [mkd, h]
theorem mkd_end (f : Nat) (out : List UInt8) : mkd f 0 out = out := by cases f <;> simp [mkd]

theorem one_byte_string {P : Program} (w : World) (src dst e : TypeId) (hs : P.underlying src = some (.slice e)) (he : P.underlying e = some (.int .u8)) (hd : P.underlying dst = some .string) (v : Int) :
    (convert src dst (.slice (some ⟨w.heap.size, 0, none⟩) 1 1)).run P (w.alloc (.cells #[.int .u8 v] e)) = .ok (.string ⟨[UInt8.ofNat v.toNat].toArray⟩) (w.alloc (.cells #[.int .u8 v] e)) := by
  have h := run_convert_bytes_arg (P := P) (w.alloc (.cells #[.int .u8 v] e)) src e hs he w.heap.size 0 1 1 [v] rfl (fun i hi => by
    obtain rfl : i = 0 := by omega
    simp) dst hd
  rw [h]
  rfl
theorem cat_lists (x y : List UInt8) : (ByteArray.mk x.toArray ++ ByteArray.mk y.toArray) = ByteArray.mk (x ++ y).toArray := ByteArray.mk_append_mk x y

/-- v is a slice of n strings that reads g in w. -/
def StrRow (w : World) (v : Value) (n : Nat) (g : Nat → ByteArray) : Prop :=
  (∃ a cap, v = .slice a 0 cap ∧ n = 0) ∨ ∃ b off cap, v = .slice (some ⟨b, off, none⟩) n cap ∧ 0 < n ∧ n ≤ 9223372036854775807 ∧ (∀ i, i < n → w.cell? ⟨b, off + i, none⟩ = some (.string (g i))) ∧ n ≤ cap
theorem StrRow.drewN {w : World} {v : Value} {n q : Nat} {g : Nat → ByteArray} (h : StrRow w v n g) : StrRow (w.drewN q) v n g := by
  rcases h with h | ⟨b, off, cap, h1, h0, h2, h3, h4⟩
  · exact .inl h
  · exact .inr ⟨b, off, cap, h1, h0, h2, fun i hi => by rw [World.cell?_drewN]; exact h3 i hi, h4⟩

theorem StrRow.of_owns {w : World} {base : Nat} {e : TypeId} {v : Value} {n : Nat} {xs : List Value} {g : Nat → ByteArray} (h : w.ownsRow base e 1 v n xs) (hn : n ≤ 9223372036854775807)
    (hg : ∀ i, i < n → xs[i]? = some (.string (g i))) : StrRow w v n g := by
  by_cases h0 : n = 0
  · subst h0
    rcases h.2 with ⟨rfl, _⟩ | ⟨b, cap, cur, rfl, _⟩
    · exact .inl ⟨_, _, rfl, rfl⟩
    · exact .inl ⟨_, _, rfl, rfl⟩
  · rcases h.2 with ⟨_, hz⟩ | ⟨b, cap, cur, rfl, _, _, hcap, _⟩
    · exact absurd hz h0
    · refine .inr ⟨b, 0, cap, rfl, by omega, hn, fun i hi => ?_, hcap⟩
      rw [Nat.zero_add, h.cellAt i (by omega)]
      exact hg i hi

def StrMarked (base : Nat) (w : World) (v : Value) (n k : Nat) (e : Ending) (w' : World) : Prop :=
  e = .returned (.int .i64 ((k : Int) + n)) ∧ (∃ ys, w'.ownsRow base 9 1 v n ys ∧ ∀ i, i < n → ys[i]? = some (.string (mkT (k + i)))) ∧ Below base w w'

theorem StrRow.below {w w' : World} {B : Nat} {v : Value} {n : Nat} {g : Nat → ByteArray} (h : StrRow w v n g) (hb : Below B w w') (hB : w.heap.size ≤ B) : StrRow w' v n g := by
  rcases h with h | ⟨b, off, cap, h1, h0, h2, h3, h4⟩
  · exact .inl h
  · exact .inr ⟨b, off, cap, h1, h0, h2, fun i hi => (hb.cell (p := ⟨b, off + i, none⟩) (Nat.lt_of_lt_of_le (World.block_lt_of_cell? w _ (h3 i hi)) hB)).trans (h3 i hi), h4⟩
def getS (L : List ByteArray) (i : Nat) : ByteArray := L.getD i ByteArray.empty
theorem StrRow.of_list {w : World} {base : Nat} {e : TypeId} {v : Value} {L : List ByteArray} (h : w.ownsRow base e 1 v L.length (L.map Value.string)) (hn : L.length ≤ 9223372036854775807) :
    StrRow w v L.length (getS L) := StrRow.of_owns h hn fun i hi => by simp [getS, hi]
end Go.Proofs.Ytojkonhhaamodaa
set_option linter.unusedVariables false
namespace Go.Proofs.Ytojkonhhaamodaa
open Go.RowKit

/-- a team's data -/
structure TeamD where
  nm : ByteArray
  club : Int
  seed : Int
def TeamD.val (t : TeamD) : Value := .agg #[.string t.nm, .int .i64 t.club, .int .i64 t.seed]
def TeamD.cells (t : TeamD) : List Value := [.string t.nm, .int .i64 t.club, .int .i64 t.seed]
/-- v is a slice of n teams (cells at k, k+1, k+2 for team number k/3) that reads g in w -/
def TeamRow (w : World) (v : Value) (n : Nat) (g : Nat → TeamD) : Prop :=
  (∃ a cap, v = .slice a 0 cap ∧ n = 0) ∨ ∃ b off cap, v = .slice (some ⟨b, off, none⟩) n cap ∧ 0 < n ∧ n ≤ 9223372036854775807 ∧
    (∀ i, i < n → w.cell? ⟨b, off + i * 3, none⟩ = some (.string (g i).nm) ∧ w.cell? ⟨b, off + i * 3 + 1, none⟩ = some (.int .i64 (g i).club) ∧ w.cell? ⟨b, off + i * 3 + 2, none⟩ = some (.int .i64 (g i).seed)) ∧ n ≤ cap
theorem TeamRow.form {w : World} {v : Value} {n : Nat} {g : Nat → TeamD} (h : TeamRow w v n g) :
    ∃ a cap, v = .slice a n cap ∧ n ≤ 9223372036854775807 ∧ (0 < n → ∃ b off, a = some ⟨b, off, none⟩ ∧
      ∀ i, i < n → w.cell? ⟨b, off + i * 3, none⟩ = some (.string (g i).nm) ∧ w.cell? ⟨b, off + i * 3 + 1, none⟩ = some (.int .i64 (g i).club) ∧ w.cell? ⟨b, off + i * 3 + 2, none⟩ = some (.int .i64 (g i).seed)) := by
  rcases h with ⟨a, cap, rfl, rfl⟩ | ⟨b, off, cap, rfl, _, hn, hc, _⟩
  · exact ⟨_, _, rfl, by omega, fun h => absurd h (by omega)⟩
  · exact ⟨_, _, rfl, hn, fun _ => ⟨b, off, rfl, hc⟩⟩

def SzTeamPost (t : TeamD) (left : Int) (w : World) (e : Ending) (w' : World) : Prop :=
  (∃ r : Int, e = .returned (.int .i64 r) ∧ ((left < t.nm.size ∧ r < 0) ∨ (0 ≤ r ∧ t.nm.size + r = left))) ∧ Below w.heap.size w w'
/-- the bytes of the first k names -/
def totT (g : Nat → TeamD) : Nat → Nat
  | 0 => 0
  | k + 1 => totT g k + (g k).nm.size
def SzTeamsPost (g : Nat → TeamD) (n left : Nat) (w : World) (e : Ending) (w' : World) : Prop :=
  (∃ r : Int, e = .returned (.int .i64 r) ∧ (r < 0 ∨ (0 ≤ r ∧ n + totT g n + r = left))) ∧ Below w.heap.size w w'
/-- the three cells of team number i of a row -/
theorem cells_below {w wr : World} {b off j : Nat} {t : TeamD} (hb : Below w.heap.size w wr) (h : w.cell? ⟨b, off + j * 3, none⟩ = some (.string t.nm) ∧ w.cell? ⟨b, off + j * 3 + 1, none⟩ = some (.int .i64 t.club) ∧ w.cell? ⟨b, off + j * 3 + 2, none⟩ = some (.int .i64 t.seed)) :
    wr.cell? ⟨b, off + j * 3, none⟩ = some (.string t.nm) ∧ wr.cell? ⟨b, off + j * 3 + 1, none⟩ = some (.int .i64 t.club) ∧ wr.cell? ⟨b, off + j * 3 + 2, none⟩ = some (.int .i64 t.seed) := by
  have hblt : b < w.heap.size := World.block_lt_of_cell? w _ h.1
  exact ⟨(hb.cell (p := ⟨b, off + j * 3, none⟩) hblt).trans h.1, (hb.cell (p := ⟨b, off + j * 3 + 1, none⟩) hblt).trans h.2.1, (hb.cell (p := ⟨b, off + j * 3 + 2, none⟩) hblt).trans h.2.2⟩

theorem Try.infoTeam : (Try.prog.info? 100).map (fun i => (i.zero, i.size, i.bytes)) = some (some (.agg #[.string ByteArray.empty, .int .i64 0, .int .i64 0]), 3, 32) := by kernel_rfl
/-- the call makes a slice of n teams that reads g and owns its memory -/
def TeamsMade (w : World) (n : Nat) (g : Nat → TeamD) (e : Ending) (w' : World) : Prop :=
  ∃ v, e = .returned v ∧ TeamRow w' v n g ∧ (∃ xs, w'.ownsRow w.heap.size 100 3 v n xs) ∧ Below w.heap.size w w'
theorem TeamRow.of_owns {w : World} {base : Nat} {e : TypeId} {v : Value} {n : Nat} {xs : List Value} {g : Nat → TeamD} (h : w.ownsRow base e 3 v n xs) (hn : n ≤ 9223372036854775807)
    (hg : ∀ t, t < n → xs[t * 3]? = some (.string (g t).nm) ∧ xs[t * 3 + 1]? = some (.int .i64 (g t).club) ∧ xs[t * 3 + 2]? = some (.int .i64 (g t).seed)) : TeamRow w v n g := by
  by_cases h0 : n = 0
  · subst h0
    rcases h.2 with ⟨rfl, _⟩ | ⟨b, cap, cur, rfl, _⟩
    · exact .inl ⟨_, _, rfl, rfl⟩
    · exact .inl ⟨_, _, rfl, rfl⟩
  · rcases h.2 with ⟨_, hz⟩ | ⟨b, cap, cur, rfl, _, _, hcap, _⟩
    · exact absurd hz h0
    · refine .inr ⟨b, 0, cap, rfl, by omega, hn, fun i hi => ?_, hcap⟩
      obtain ⟨h1, h2, h3⟩ := hg i hi
      simp only [Nat.zero_add]
      exact ⟨by rw [h.cellAt _ (by omega)]; exact h1, by rw [h.cellAt _ (by omega)]; exact h2, by rw [h.cellAt _ (by omega)]; exact h3⟩
theorem tgrown_trans {a b c : World} {row : Option Nat} (h : a.grownBy b row) (k : b.grownBy c row) : a.grownBy c row :=
  ⟨k.os.trans h.os, k.tape.trans h.tape, k.output.trans h.output, Nat.le_trans h.size k.size, fun i hi hne => (k.block i (Nat.lt_of_lt_of_le hi h.size) hne).trans (h.block i hi hne)⟩
theorem tgrown_any {a b : World} (h : a.grownBy b none) (row : Option Nat) : a.grownBy b row := ⟨h.os, h.tape, h.output, h.size, fun i hi _ => h.block i hi (by simp)⟩
theorem tgrown_refl (a : World) (row : Option Nat) : a.grownBy a row := ⟨rfl, rfl, rfl, Nat.le_refl _, fun _ _ _ => rfl⟩
end Go.Proofs.Ytojkonhhaamodaa
set_option linter.unusedVariables false
namespace Go.Proofs.Ytojkonhhaamodaa
open Go.RowKit

theorem bytes_ne {x y : ByteArray} (h : x ≠ y) : (x.toList == y.toList) = false := by
  rw [beq_eq_false_iff_ne, ne_eq, ByteArray.toList_eq, ByteArray.toList_eq]
  exact fun e => h (ByteArray.ext (Array.toList_inj.mp e))
def teamP (t : TeamD) : Prop := nameB t.nm = true ∧ (0 ≤ t.club ∧ t.club ≤ 5) ∧ (1 ≤ t.seed ∧ t.seed ≤ 8)
theorem teamOk_yes (t : TeamD) (w : World) (hs : t.nm.size ≤ maxLen) (hp : teamP t) :
    Calls Try.prog 85 #[.agg #[.string t.nm, .int .i64 t.club, .int .i64 t.seed]] w fun e w' => e = .returned (.bool true) ∧ Below w.heap.size w w' := by
  obtain ⟨nm, club, seed⟩ := t
  obtain ⟨h1, h2, h3⟩ := hp
  simp only at h1 h2 h3 hs ⊢
  have H1 := Lib.hid h1
  clear h1
  go_enter Try.func85, Try.ntmps85
  go_wp2_with (first
    | (go_at_call 92; refine (isName_spec _ _ hs).mono ?_; rintro e w' ⟨rfl, rfl⟩; rw [H1.out])
    | (go_at_call 45; refine (l01In_yes _ _ _ _ (by omega)).mono ?_; rintro e w' ⟨rfl, rfl⟩))
  go_ret
  exact ⟨rfl, (Below.refl _ _).alloc (Nat.le_refl _) _⟩
theorem teamOk_no (t : TeamD) (w : World) (hs : t.nm.size ≤ maxLen) (hp : ¬ teamP t) :
    Calls Try.prog 85 #[.agg #[.string t.nm, .int .i64 t.club, .int .i64 t.seed]] w fun e w' => e = .returned (.bool false) ∧ Below w.heap.size w w' := by
  obtain ⟨nm, club, seed⟩ := t
  unfold teamP at hp
  simp only at hp hs ⊢
  by_cases h1 : nameB nm = true
  · have H1 := Lib.hid h1
    by_cases h2 : 0 ≤ club ∧ club ≤ 5
    · have h3 : ¬ (1 ≤ seed ∧ seed ≤ 8) := fun h3 => hp ⟨h1, h2, h3⟩
      clear h1 hp
      go_enter Try.func85, Try.ntmps85
      go_wp2_with (first
        | (go_at_call 92; refine (isName_spec _ _ hs).mono ?_; rintro e w' ⟨rfl, rfl⟩; rw [H1.out])
        | (go_at_call 45; refine (l01In_yes _ _ _ _ (by omega)).mono ?_; rintro e w' ⟨rfl, rfl⟩)
        | (go_at_call 45; refine (l01In_no _ _ _ _ (by omega)).mono ?_; rintro e w' ⟨rfl, rfl⟩))
      go_ret
      exact ⟨rfl, (Below.refl _ _).alloc (Nat.le_refl _) _⟩
    · clear h1 hp
      go_enter Try.func85, Try.ntmps85
      go_wp2_with (first
        | (go_at_call 92; refine (isName_spec _ _ hs).mono ?_; rintro e w' ⟨rfl, rfl⟩; rw [H1.out])
        | (go_at_call 45; refine (l01In_no _ _ _ _ (by omega)).mono ?_; rintro e w' ⟨rfl, rfl⟩))
      go_ret
      exact ⟨rfl, (Below.refl _ _).alloc (Nat.le_refl _) _⟩
  · have h1' : nameB nm = false := by simpa using h1
    have H1 := Lib.hid h1'
    clear h1 h1' hp
    go_enter Try.func85, Try.ntmps85
    go_wp2_with (go_at_call 92; refine (isName_spec _ _ hs).mono ?_; rintro e w' ⟨rfl, rfl⟩; rw [H1.out])
    go_ret
    exact ⟨rfl, (Below.refl _ _).alloc (Nat.le_refl _) _⟩

/-- the first team from k on, of r more, that has this name; else -1 -/
def namedI (g : Nat → TeamD) (x : ByteArray) : Nat → Nat → Int
  | 0, _ => -1
  | r + 1, k => if (g k).nm = x then (k : Int) else namedI g x r (k + 1)
/-- a new variable of three cells keeps them under what keeps all that was there -/
theorem var3 {w w2 : World} {t : TypeId} {a b c : Value} (h : Below (w.alloc (.cells #[a, b, c] t)).heap.size (w.alloc (.cells #[a, b, c] t)) w2) :
    w2.cell? ⟨w.heap.size, 0, none⟩ = some a ∧ w2.cell? ⟨w.heap.size, 1, none⟩ = some b ∧ w2.cell? ⟨w.heap.size, 2, none⟩ = some c := by
  have key : ∀ (j : Nat) (u : Value), #[a, b, c][j]? = some u → w2.cell? ⟨w.heap.size, j, none⟩ = some u := by
    intro j u hu
    have h0 : (w.alloc (.cells #[a, b, c] t)).cell? ⟨w.heap.size, j, none⟩ = some u := by
      rw [cell_of_row _ w.heap.size j #[a, b, c] t (0, 0) (heap_alloc_new w _)]
      exact hu
    exact (h.cell (p := ⟨w.heap.size, j, none⟩) (World.block_lt_of_cell? _ _ h0)).trans h0
  exact ⟨key 0 a rfl, key 1 b rfl, key 2 c rfl⟩
theorem var3_below {w w2 : World} {B : Nat} {a b c : Value} (k0 : w.cell? ⟨B, 0, none⟩ = some a) (k1 : w.cell? ⟨B, 1, none⟩ = some b) (k2 : w.cell? ⟨B, 2, none⟩ = some c) (h : Below w.heap.size w w2) :
    w2.cell? ⟨B, 0, none⟩ = some a ∧ w2.cell? ⟨B, 1, none⟩ = some b ∧ w2.cell? ⟨B, 2, none⟩ = some c := by
  have hlt : B < w.heap.size := World.block_lt_of_cell? w _ k0
  exact ⟨(h.cell (p := ⟨B, 0, none⟩) hlt).trans k0, (h.cell (p := ⟨B, 1, none⟩) hlt).trans k1, (h.cell (p := ⟨B, 2, none⟩) hlt).trans k2⟩
theorem TeamRow.take {w : World} {b off cap n : Nat} {g : Nat → TeamD} (k : Nat) (hk : k ≤ n) (hn : n ≤ 9223372036854775807) (hcap : n ≤ cap)
    (h : ∀ i, i < n → w.cell? ⟨b, off + i * 3, none⟩ = some (.string (g i).nm) ∧ w.cell? ⟨b, off + i * 3 + 1, none⟩ = some (.int .i64 (g i).club) ∧ w.cell? ⟨b, off + i * 3 + 2, none⟩ = some (.int .i64 (g i).seed)) :
    TeamRow w (.slice (some ⟨b, off, none⟩) k cap) k g := by
  by_cases h0 : k = 0
  · subst h0; exact .inl ⟨_, _, rfl, rfl⟩
  · exact .inr ⟨b, off, cap, rfl, by omega, by omega, fun i hi => h i (by omega), by omega⟩
theorem TeamRow.form' {w : World} {v : Value} {n : Nat} {g : Nat → TeamD} (h : TeamRow w v n g) :
    ∃ a cap, v = .slice a n cap ∧ n ≤ 9223372036854775807 ∧ (0 < n → ∃ b off, a = some ⟨b, off, none⟩ ∧ n ≤ cap ∧
      ∀ i, i < n → w.cell? ⟨b, off + i * 3, none⟩ = some (.string (g i).nm) ∧ w.cell? ⟨b, off + i * 3 + 1, none⟩ = some (.int .i64 (g i).club) ∧ w.cell? ⟨b, off + i * 3 + 2, none⟩ = some (.int .i64 (g i).seed)) := by
  rcases h with ⟨a, cap, rfl, rfl⟩ | ⟨b, off, cap, rfl, _, hn, hc, hcap⟩
  · exact ⟨_, _, rfl, by omega, fun h => absurd h (by omega)⟩
  · exact ⟨_, _, rfl, hn, fun _ => ⟨b, off, rfl, hcap, hc⟩⟩

/-- team number i is valid and like none before it -/
def freshP (g : Nat → TeamD) (i : Nat) : Prop := teamP (g i) ∧ ∀ j, j < i → (g j).nm ≠ (g i).nm ∧ (g j).seed ≠ (g i).seed
def fieldP (n : Nat) (g : Nat → TeamD) : Prop := (2 ≤ n ∧ n ≤ 8) ∧ ∀ i, i < n → freshP g i
theorem fieldOk_yes (v : Value) (n : Nat) (g : Nat → TeamD) (w : World) (h : TeamRow w v n g) (hg : ∀ i, (g i).nm.size ≤ maxLen) (hp : fieldP n g) :
    Calls Try.prog 73 #[v] w fun e w' => e = .returned (.bool true) ∧ Below w.heap.size w w' := by
  obtain ⟨hn8, hall⟩ := hp
  obtain ⟨a, cap, rfl, hn, hv⟩ := h.form'
  have HV := Lib.hid hv
  have HA := Lib.hid hall
  have HG := Lib.hid hg
  clear hv h hall hg
  go_enter Try.func73, Try.ntmps73
  go_wp2_with (go_at_call 45; refine (l01In_yes _ _ _ _ (by omega)).mono ?_; rintro e w' ⟨rfl, rfl⟩)
  go_loopw [13] (fun i wr => ∃ k : Nat, k ≤ n ∧ i = .int .i64 k ∧ Below w.heap.size w wr) (fun i _ => n - (intOf i).toNat)
  case atStart => exact ⟨0, Nat.zero_le _, rfl, Below.refl _ _⟩
  case round =>
    obtain ⟨k, hk, rfl, hb⟩ := hrel
    by_cases hlt : k < n
    · obtain ⟨b, off, rfl, hcap, hc⟩ := HV.out (by omega)
      obtain ⟨c0, c1, c2⟩ := cells_below hb (hc k hlt)
      obtain ⟨hx, hno⟩ := HA.out k hlt
      have HC : Hid (∀ i, i < k → (w.cell? ⟨b, off + i * 3, none⟩ = some (.string (g i).nm) ∧ w.cell? ⟨b, off + i * 3 + 1, none⟩ = some (.int .i64 (g i).club) ∧ w.cell? ⟨b, off + i * 3 + 2, none⟩ = some (.int .i64 (g i).seed))) := fun i hi => hc i (by omega)
      have HNO := Lib.hid hno
      have HX := Lib.hid hx
      have hgk := HG.out k
      have hk9 : (k : Int) ≤ cap := by omega
      clear hc HV HA hno hx HG
      generalize hy : g k = x at c0 c1 c2 HNO HX hgk
      clear hy
      go_wp2_with (go_at_call 85; refine (teamOk_yes x _ hgk HX.out).mono ?_; rintro e w2 ⟨rfl, b2⟩; have K := Lib.hid (var3 b2); have hb2 : Below w.heap.size w w2 := (hb.alloc hb.size _).trans (b2.mono (Nat.le_trans hb.size (by simp))))
      have HB2 := Lib.hid hb2
      clear b2 hb hb2 c0 c1 c2
      generalize wr.heap.size = B at *
      go_loopw [25] (fun i wi => ∃ j : Nat, j ≤ k ∧ i = .int .i64 j ∧ Below w2.heap.size w2 wi) (fun i _ => k - (intOf i).toNat)
      case atStart => exact ⟨0, Nat.zero_le _, rfl, Below.refl _ _⟩
      case round =>
        obtain ⟨j, hj, rfl, hbi⟩ := hrel
        obtain ⟨v0, v1, v2⟩ := K.out
        have hvb := World.block_lt_of_cell? w2 _ v0
        have v0 := (hbi.cell (p := ⟨B, 0, none⟩) hvb).trans v0
        have v2 := (hbi.cell (p := ⟨B, 2, none⟩) hvb).trans v2
        clear K v1
        by_cases hj' : j < k
        · have hbo : Below w.heap.size w wr := HB2.out.trans (hbi.mono HB2.out.size)
          obtain ⟨c0, c1, c2⟩ := cells_below hbo (HC.out j hj')
          obtain ⟨hn1, hn2⟩ := HNO.out j hj'
          have g1 : ((g j).nm.toList == x.nm.toList) = false := bytes_ne hn1
          have g2 : ((g j).seed == x.seed) = false := by simpa using hn2
          clear hn1 hn2 HC HNO hbo
          generalize g j = y at c0 c1 c2 g1 g2
          have hwb := World.block_lt_of_cell? wr _ v0
          have V0 : (wr.alloc (.cells #[.string y.nm, .int .i64 y.club, .int .i64 y.seed] 100)).cell? ⟨B, 0, none⟩ = some (.string x.nm) :=
            (((Below.refl wr.heap.size wr).alloc (Nat.le_refl _) _).cell (p := ⟨B, 0, none⟩) hwb).trans v0
          have V2 : (wr.alloc (.cells #[.string y.nm, .int .i64 y.club, .int .i64 y.seed] 100)).cell? ⟨B, 2, none⟩ = some (.int .i64 x.seed) :=
            (((Below.refl wr.heap.size wr).alloc (Nat.le_refl _) _).cell (p := ⟨B, 2, none⟩) hwb).trans v2
          clear v0 v2
          go_wp2
          go_roundw
          case rel => exact ⟨j + 1, by omega, by go_num, hbi.alloc hbi.size _⟩
          case measure => simp [intOf]; omega
        · go_wp2
          go_roundw
          case rel => exact ⟨k + 1, by omega, by go_num, HB2.out.trans (hbi.mono HB2.out.size)⟩
          case measure => simp [intOf]; omega
    · go_wp2
      go_ret
      exact ⟨rfl, hb⟩
theorem fieldOk_no (v : Value) (n : Nat) (g : Nat → TeamD) (w : World) (h : TeamRow w v n g) (hg : ∀ i, (g i).nm.size ≤ maxLen) (hp : ¬ fieldP n g) :
    Calls Try.prog 73 #[v] w fun e w' => e = .returned (.bool false) ∧ Below w.heap.size w w' := by
  obtain ⟨a, cap, rfl, hn, hv⟩ := h.form'
  have HV := Lib.hid hv
  have HG := Lib.hid hg
  clear hv h hg
  by_cases hn8 : ¬ ((2 : Int) ≤ n ∧ (n : Int) ≤ 8)
  · clear hp HV HG
    go_enter Try.func73, Try.ntmps73
    go_wp2_with (go_at_call 45; refine (l01In_no _ _ _ _ (by omega)).mono ?_; rintro e w' ⟨rfl, rfl⟩)
    go_ret
    exact ⟨rfl, Below.refl _ _⟩
  replace hn8 := Decidable.not_not.1 hn8
  have HA : Hid (¬ ∀ i, i < n → freshP g i) := fun h => hp ⟨by omega, h⟩
  clear hp
  go_enter Try.func73, Try.ntmps73
  go_wp2_with (go_at_call 45; refine (l01In_yes _ _ _ _ (by omega)).mono ?_; rintro e w' ⟨rfl, rfl⟩)
  go_loopw [13] (fun i wr => ∃ k : Nat, k ≤ n ∧ i = .int .i64 k ∧ Hid (∀ i, i < k → freshP g i) ∧ Below w.heap.size w wr) (fun i _ => n - (intOf i).toNat)
  case atStart => exact ⟨0, Nat.zero_le _, rfl, fun i hi => absurd hi (by omega), Below.refl _ _⟩
  case round =>
    obtain ⟨k, hk, rfl, hf, hb⟩ := hrel
    by_cases hlt : k < n
    · obtain ⟨b, off, rfl, hcap, hc⟩ := HV.out (by omega)
      obtain ⟨c0, c1, c2⟩ := cells_below hb (hc k hlt)
      have HC : Hid (∀ i, i < k → (w.cell? ⟨b, off + i * 3, none⟩ = some (.string (g i).nm) ∧ w.cell? ⟨b, off + i * 3 + 1, none⟩ = some (.int .i64 (g i).club) ∧ w.cell? ⟨b, off + i * 3 + 2, none⟩ = some (.int .i64 (g i).seed))) := fun i hi => hc i (by omega)
      have HS : Hid (freshP g k → ∀ i, i < k + 1 → freshP g i) := fun h i hi => by
        by_cases hik : i = k
        · subst hik; exact h
        · exact hf.out i (by omega)
      have hgk := HG.out k
      have hk9 : (k : Int) ≤ cap := by omega
      clear hc HV HA HG hf
      by_cases hx : ¬ teamP (g k)
      · have HX := Lib.hid hx
        clear hx HC HS
        generalize g k = x at *
        go_wp2_with (go_at_call 85; refine (teamOk_no x _ hgk HX.out).mono ?_; rintro e w2 ⟨rfl, b2⟩; have hb2 : Below w.heap.size w w2 := (hb.alloc hb.size _).trans (b2.mono (Nat.le_trans hb.size (by simp))))
        go_ret
        exact ⟨rfl, hb2⟩
      replace hx := Classical.not_not.1 hx
      have HX := Lib.hid hx
      have HF : Hid ((∀ j, j < k → (g j).nm ≠ (g k).nm ∧ (g j).seed ≠ (g k).seed) → ∀ i, i < k + 1 → freshP g i) := fun h => HS.out ⟨HX.out, h⟩
      clear hx HS
      have HY : Hid (g k = g k) := rfl
      generalize hy : g k = x at c0 c1 c2 HX hgk
      have HE := Lib.hid hy
      clear hy HY
      go_wp2_with (go_at_call 85; refine (teamOk_yes x _ hgk HX.out).mono ?_; rintro e w2 ⟨rfl, b2⟩; have K := Lib.hid (var3 b2); have hb2 : Below w.heap.size w w2 := (hb.alloc hb.size _).trans (b2.mono (Nat.le_trans hb.size (by simp))))
      have HB2 := Lib.hid hb2
      clear b2 hb hb2 c0 c1 c2
      generalize wr.heap.size = B at *
      go_loopw [25] (fun i wi => ∃ j : Nat, j ≤ k ∧ i = .int .i64 j ∧ Hid (∀ t, t < j → (g t).nm ≠ x.nm ∧ (g t).seed ≠ x.seed) ∧ Below w2.heap.size w2 wi) (fun i _ => k - (intOf i).toNat)
      case atStart => exact ⟨0, Nat.zero_le _, rfl, fun i hi => absurd hi (by omega), Below.refl _ _⟩
      case round =>
        obtain ⟨j, hj, rfl, hfi, hbi⟩ := hrel
        obtain ⟨v0, v1, v2⟩ := K.out
        have hvb := World.block_lt_of_cell? w2 _ v0
        have v0 := (hbi.cell (p := ⟨B, 0, none⟩) hvb).trans v0
        have v2 := (hbi.cell (p := ⟨B, 2, none⟩) hvb).trans v2
        clear K v1
        have HBO := Lib.hid (HB2.out.trans (hbi.mono HB2.out.size))
        by_cases hj' : j < k
        · obtain ⟨c0, c1, c2⟩ := cells_below HBO.out (HC.out j hj')
          have HN : Hid ((g j).nm ≠ x.nm → (g j).seed ≠ x.seed → ∀ t, t < j + 1 → (g t).nm ≠ x.nm ∧ (g t).seed ≠ x.seed) := fun h1 h2 t ht => by
            by_cases htj : t = j
            · subst htj; exact ⟨h1, h2⟩
            · exact hfi.out t (by omega)
          have hwb := World.block_lt_of_cell? wr _ v0
          have V0 : ∀ y : TeamD, Hid ((wr.alloc (.cells #[.string y.nm, .int .i64 y.club, .int .i64 y.seed] 100)).cell? ⟨B, 0, none⟩ = some (.string x.nm)) := fun y =>
            (((Below.refl wr.heap.size wr).alloc (Nat.le_refl _) _).cell (p := ⟨B, 0, none⟩) hwb).trans v0
          have V2 : ∀ y : TeamD, Hid ((wr.alloc (.cells #[.string y.nm, .int .i64 y.club, .int .i64 y.seed] 100)).cell? ⟨B, 2, none⟩ = some (.int .i64 x.seed)) := fun y =>
            (((Below.refl wr.heap.size wr).alloc (Nat.le_refl _) _).cell (p := ⟨B, 2, none⟩) hwb).trans v2
          have V0 := (V0 (g j)).out
          have V2 := (V2 (g j)).out
          clear v0 v2 HC HF HE hfi
          by_cases h1 : (g j).nm = x.nm
          · rw [h1] at c0
            clear HN
            generalize g j = y at *
            rw [h1] at V0 V2
            clear h1
            go_wp2
            go_ret
            exact ⟨rfl, HBO.out.alloc HBO.out.size _⟩
          · have g1 : ((g j).nm.toList == x.nm.toList) = false := bytes_ne h1
            by_cases h2 : (g j).seed = x.seed
            · clear HN h1
              generalize g j = y at *
              have g2 : (y.seed == x.seed) = true := by simpa using h2
              clear h2
              go_wp2
              go_ret
              exact ⟨rfl, HBO.out.alloc HBO.out.size _⟩
            · have g2 : ((g j).seed == x.seed) = false := by simpa using h2
              have HN2 := Lib.hid (HN.out h1 h2)
              clear h1 h2 HN
              generalize g j = y at c0 c1 c2 g1 g2 V0 V2
              go_wp2
              go_roundw
              case rel => exact ⟨j + 1, by omega, by go_num, HN2.out, hbi.alloc hbi.size _⟩
              case measure => simp [intOf]; omega
        · obtain rfl : j = k := by omega
          have HF2 : Hid (∀ i, i < j + 1 → freshP g i) := HF.out (by rw [HE.out]; exact hfi.out)
          clear HF hfi HE v0 v2
          go_wp2
          go_roundw
          case rel => exact ⟨j + 1, by omega, by go_num, HF2.out, HBO.out⟩
          case measure => simp [intOf]; omega
    · obtain rfl : k = n := by omega
      exact absurd hf.out HA.out
end Go.Proofs.Ytojkonhhaamodaa
set_option linter.unusedVariables false
namespace Go.Proofs.Ytojkonhhaamodaa
open Go.Lib

theorem decDigits_step (u : Nat) (h : ¬ u < 10) : decDigits u = decDigits (u / 10) ++ [UInt8.ofNat (48 + u % 10)] := by rw [decDigits, dif_neg h]
theorem dig_toNat (d : Nat) (h : d < 10) : (UInt8.ofNat (48 + d)).toNat = 48 + d := by
  rw [UInt8.toNat_ofNat']; omega
theorem decDigits_dig (u : Nat) : ∀ b ∈ decDigits u, 48 ≤ b.toNat ∧ b.toNat ≤ 57 := by
  induction u using Nat.strongRecOn with
  | _ u ih =>
    intro b hb
    by_cases h : u < 10
    · rw [decDigits_one h] at hb
      simp only [List.mem_singleton] at hb
      rw [hb, dig_toNat u h]; omega
    · rw [decDigits_step u h] at hb
      simp only [List.mem_append, List.mem_singleton] at hb
      rcases hb with hb | hb
      · exact ih (u / 10) (by omega) b hb
      · rw [hb, dig_toNat (u % 10) (by omega)]; omega
/-- the number that a row of digits spells -/
def valL (l : List UInt8) : Nat := l.foldl (fun a b => a * 10 + (b.toNat - 48)) 0
theorem valL_nil : valL [] = 0 := rfl
theorem valL_snoc (l : List UInt8) (b : UInt8) : valL (l ++ [b]) = valL l * 10 + (b.toNat - 48) := by simp [valL]
theorem valL_decDigits (u : Nat) : valL (decDigits u) = u := by
  induction u using Nat.strongRecOn with
  | _ u ih =>
    by_cases h : u < 10
    · rw [decDigits_one h]
      show 0 * 10 + ((UInt8.ofNat (48 + u)).toNat - 48) = u
      rw [dig_toNat u h]; omega
    · rw [decDigits_step u h, valL_snoc, ih (u / 10) (by omega), dig_toNat (u % 10) (by omega)]; omega
theorem decDigits_ne (u : Nat) : decDigits u ≠ [] := by
  have h1 := decDigits_length u
  have h2 := nDigits_pos u
  intro h
  rw [h] at h1
  simp at h1; omega
theorem decDigits_cons (u : Nat) : ∃ b r, decDigits u = b :: r ∧ 48 ≤ b.toNat ∧ b.toNat ≤ 57 := by
  cases h : decDigits u with
  | nil => exact absurd h (decDigits_ne u)
  | cons b r => exact ⟨b, r, rfl, decDigits_dig u b (by rw [h]; exact List.mem_cons_self ..)⟩
theorem valL_take_le (l : List UInt8) : ∀ j k, j ≤ k → valL (l.take j) ≤ valL (l.take k) := by
  intro j k hjk
  induction k with
  | zero => obtain rfl : j = 0 := by omega
            exact Nat.le_refl _
  | succ k ih =>
    by_cases h : j = k + 1
    · rw [h]; exact Nat.le_refl _
    · refine Nat.le_trans (ih (by omega)) ?_
      by_cases hk : k < l.length
      · rw [List.take_succ_eq_append_getElem hk, valL_snoc]; omega
      · rw [List.take_of_length_le (by omega), List.take_of_length_le (by omega)]; exact Nat.le_refl _
theorem nDigits_le (u : Nat) (h : u ≤ 9223372036854775808) : nDigits u ≤ 19 := by
  by_cases h19 : nDigits u ≤ 19
  · exact h19
  · exfalso
    have key : ∀ k v : Nat, v < 10 ^ (k + 1) → nDigits v ≤ k + 1 := by
      intro k
      induction k with
      | zero => intro v hv; rw [nDigits_small (by simpa using hv)]; exact Nat.le_refl _
      | succ k ih =>
        intro v hv
        by_cases hs : v < 10
        · rw [nDigits_small hs]; omega
        · rw [nDigits_big hs]
          have := ih (v / 10) (by rw [Nat.pow_succ] at hv; omega)
          omega
    have := key 18 u (by have : (10 : Nat) ^ (18 + 1) = 10000000000000000000 := by decide
                         omega)
    omega

/-- n is an int -/
def isInt (n : Int) : Prop := -9223372036854775808 ≤ n ∧ n ≤ 9223372036854775807
theorem itoa_neg (n : Int) (h : n < 0) : itoa n = 45 :: decDigits n.natAbs := by simp [itoa, h]
theorem itoa_pos (n : Int) (h : ¬ n < 0) : itoa n = decDigits n.toNat := by simp [itoa, h]
theorem itoa_inj {a b : Int} (h : itoa a = itoa b) : a = b := by
  by_cases ha : a < 0
  · by_cases hb : b < 0
    · rw [itoa_neg a ha, itoa_neg b hb] at h
      have h1 := congrArg valL (List.cons.inj h).2
      rw [valL_decDigits, valL_decDigits] at h1
      omega
    · rw [itoa_neg a ha, itoa_pos b hb] at h
      obtain ⟨x, r, hx, h1, h2⟩ := decDigits_cons b.toNat
      rw [hx] at h
      have := congrArg UInt8.toNat (List.cons.inj h).1
      simp at this; omega
  · by_cases hb : b < 0
    · rw [itoa_pos a ha, itoa_neg b hb] at h
      obtain ⟨x, r, hx, h1, h2⟩ := decDigits_cons a.toNat
      rw [hx] at h
      have := congrArg UInt8.toNat (List.cons.inj h).1
      simp at this; omega
    · rw [itoa_pos a ha, itoa_pos b hb] at h
      have h1 := congrArg valL h
      rw [valL_decDigits, valL_decDigits] at h1
      omega
/-- what ParseInt may answer at the bytes l -/
def parsed (l : List UInt8) (v : Int) (ok : Bool) : Prop := if ok = true then isInt v ∧ itoa v = l else v = 0 ∧ ∀ n, isInt n → itoa n ≠ l
theorem parsed_unique {l : List UInt8} {v v' : Int} {b b' : Bool} (h : parsed l v b) (h' : parsed l v' b') : v = v' ∧ b = b' := by
  unfold parsed at h h'
  cases b <;> cases b' <;> simp at h h'
  · exact ⟨by rw [h.1, h'.1], rfl⟩
  · exact absurd h'.2 (h.2 v' h'.1)
  · exact absurd h.2 (h'.2 v h.1)
  · exact ⟨itoa_inj (h.2.trans h'.2.symm), rfl⟩

/-- a canonical numeral of an int without a sign -/
theorem canon_pos {n : Int} {l : List UInt8} (hn : isInt n) (h : itoa n = l) (hl : ∀ r, l ≠ 45 :: r) : l ≠ [] ∧ (∀ b ∈ l, 48 ≤ b.toNat ∧ b.toNat ≤ 57) ∧ l.length ≤ 19 ∧ valL l ≤ 9223372036854775807 ∧ n = valL l := by
  have hp : ¬ n < 0 := fun hp => hl _ (by rw [← h, itoa_neg n hp])
  rw [itoa_pos n hp] at h
  subst h
  have h1 := decDigits_length n.toNat
  have h2 := nDigits_le n.toNat (by unfold isInt at hn; omega)
  refine ⟨decDigits_ne _, decDigits_dig _, by omega, ?_, ?_⟩
  · rw [valL_decDigits]; unfold isInt at hn; omega
  · rw [valL_decDigits]; omega
/-- a canonical numeral of an int with a sign -/
theorem canon_neg {n : Int} {r : List UInt8} (hn : isInt n) (h : itoa n = 45 :: r) : r ≠ [] ∧ (∀ b ∈ r, 48 ≤ b.toNat ∧ b.toNat ≤ 57) ∧ r.length ≤ 19 ∧ valL r ≤ 9223372036854775808 ∧ n = -(valL r : Int) := by
  have hp : n < 0 := by
    by_cases hp : n < 0
    · exact hp
    · rw [itoa_pos n hp] at h
      obtain ⟨x, r', hx, h1, h2⟩ := decDigits_cons n.toNat
      rw [hx] at h
      have := congrArg UInt8.toNat (List.cons.inj h).1
      simp at this; omega
  rw [itoa_neg n hp] at h
  have h := (List.cons.inj h).2
  subst h
  have h1 := decDigits_length n.natAbs
  have h2 := nDigits_le n.natAbs (by unfold isInt at hn; omega)
  refine ⟨decDigits_ne _, decDigits_dig _, by omega, ?_, ?_⟩
  · rw [valL_decDigits]; unfold isInt at hn; omega
  · rw [valL_decDigits]; omega
end Go.Proofs.Ytojkonhhaamodaa
set_option linter.unusedVariables false
namespace Go.Proofs.Ytojkonhhaamodaa
open Go.RowKit
open Go.Sort (grow)

theorem one_byte {P : Program} (w : World) (src dst e : TypeId) (hs : P.underlying src = some (.slice e)) (he : P.underlying e = some (.int .u8)) (hd : P.underlying dst = some .string) (v : Int) :
    (convert src dst (.slice (some ⟨w.heap.size, 0, none⟩) 1 1)).run P (w.alloc (.cells #[.int .u8 v] e)) = .ok (.string ⟨[UInt8.ofNat v.toNat].toArray⟩) (w.alloc (.cells #[.int .u8 v] e)) := by
  have h := run_convert_bytes_arg (P := P) (w.alloc (.cells #[.int .u8 v] e)) src e hs he w.heap.size 0 1 1 [v] rfl (fun i hi => by
    obtain rfl : i = 0 := by omega
    simp) dst hd
  rw [h]
  rfl
theorem one_byte_at {P : Program} (src dst e : TypeId) (hs : P.underlying src = some (.slice e)) (he : P.underlying e = some (.int .u8)) (hd : P.underlying dst = some .string) (v : Int) (B : Nat) (W : World)
    (hc : W.cell? ⟨B, 0, none⟩ = some (.int .u8 v)) :
    (convert src dst (.slice (some ⟨B, 0, none⟩) 1 1)).run P W = .ok (.string ⟨[UInt8.ofNat v.toNat].toArray⟩) W := by
  have h := run_convert_bytes_arg (P := P) W src e hs he B 0 1 1 [v] rfl (fun i hi => by
    obtain rfl : i = 0 := by omega
    simpa using hc) dst hd
  rw [h]
  rfl
theorem kept_cell1 {w w1 : World} {v : Value} {e : TypeId} (b : Below (w.drew.alloc (.cells #[v] e)).heap.size (w.drew.alloc (.cells #[v] e)) w1) : w1.cell? ⟨w.heap.size, 0, none⟩ = some v := by
  rw [b.cell (p := ⟨w.heap.size, 0, none⟩) (by simp)]
  exact World.cell?_alloc_mark w.drew #[v] e (0, 0) 0
theorem kept_cell2 {w w1 : World} {v : Value} {e : TypeId} (b : Below (w.alloc (.cells #[v] e)).drew.heap.size (w.alloc (.cells #[v] e)).drew w1) : w1.cell? ⟨w.heap.size, 0, none⟩ = some v := by
  rw [b.cell (p := ⟨w.heap.size, 0, none⟩) (by simp)]
  exact World.cell?_alloc_mark w #[v] e (0, 0) 0
theorem cats (x y : List UInt8) : (ByteArray.mk x.toArray ++ ByteArray.mk y.toArray) = ByteArray.mk (x ++ y).toArray := ByteArray.mk_append_mk x y

theorem of48 (x : Nat) : UInt8.ofNat (48 + x) = 48 + UInt8.ofNat x := by simp

set_option maxRecDepth 100000 in
theorem formatInt_nat (m : Nat) (w : World) (hm : m ≤ 9223372036854775807) :
    Calls Try.prog 53 #[.int .i64 (m : Int)] w fun e w' => e = .returned (.string ⟨(Lib.decDigits m).toArray⟩) ∧ Below w.heap.size w w' := by
  go_enter Try.func53, Try.ntmps53
  go_wp2_with fail
  go_loopw [0, 3] (fun nv sv wr => ∃ (j : Nat) (l : List UInt8), nv = .int .i64 (j : Int) ∧ sv = .string ⟨l.toArray⟩ ∧ 2 * l.length + j ≤ m ∧ Hid (Lib.decDigits j ++ l = Lib.decDigits m) ∧ Below w.heap.size w wr) (fun nv _ _ => (intOf nv).toNat)
  case atStart => exact ⟨m, [], rfl, rfl, by simp, by simp [Hid], Below.refl _ _⟩
  case round =>
    obtain ⟨j, l, rfl, rfl, hl, hd, hb⟩ := hrel
    have hz : l.toArray.size ≤ 4611686018427387904 := by simp; omega
    by_cases h9 : 9 < j
    · have hcv := one_byte (P := Try.prog) wr 22 9 5 Try.underlying22 Try.underlying5 Try.underlying9 (48 + (j : Int) % 10)
      have Hd : Hid (Lib.decDigits (j / 10) ++ ((48 + UInt8.ofNat (j % 10)) :: l) = Lib.decDigits m) := by
        show _ = _; rw [← hd.out, decDigits_step j (by omega), of48]; simp
      go_wp2_with fail
      go_roundw
      case rel =>
        exact ⟨j / 10, (48 + UInt8.ofNat (j % 10)) :: l, by go_num, congrArg Value.string (cats [48 + UInt8.ofNat (j % 10)] l), by simp; omega, Hd.out, hb.alloc hb.size _⟩
      case measure => simp [intOf]; omega
    · have hcv := one_byte (P := Try.prog) wr 22 9 5 Try.underlying22 Try.underlying5 Try.underlying9 (48 + (j : Int))
      have Hd : Hid (((48 + UInt8.ofNat j) :: l) = Lib.decDigits m) := by
        show _ = _; rw [← hd.out, Lib.decDigits_one (show j < 10 by omega), of48]; rfl
      go_wp2_with fail
      go_ret
      exact ⟨by rw [← Hd.out]; exact congrArg (fun x => Ending.returned (Value.string x)) (cats [48 + UInt8.ofNat j] l), hb.alloc hb.size _⟩

set_option maxRecDepth 100000 in
theorem formatInt_neg (m : Nat) : ∀ w : World, 1 ≤ m → m ≤ 9223372036854775808 →
    Calls Try.prog 53 #[.int .i64 (-(m : Int))] w fun e w' => e = .returned (.string ⟨(45 :: Lib.decDigits m).toArray⟩) ∧ Below w.heap.size w w' := by
  induction m using Nat.strongRecOn with
  | _ m ih =>
  intro w h1 hm
  by_cases h9 : m < 10
  · have hcv := one_byte (P := Try.prog) w 22 9 5 Try.underlying22 Try.underlying5 Try.underlying9 (48 + (m : Int))
    have g1 : (-((m : Int) / 10) == 0) = true := by
      have : -((m : Int) / 10) = 0 := by omega
      simp [this]
    have hd := Lib.hid (Lib.decDigits_one h9)
    go_enter Try.func53, Try.ntmps53
    go_wp2_with fail
    go_ret
    refine ⟨?_, (Below.refl _ _).alloc (Nat.le_refl _) _⟩
    rw [hd.out, of48]
    exact congrArg (fun x => Ending.returned (Value.string x)) (cats [45] [48 + UInt8.ofNat m])
  · have g1 : (-((m : Int) / 10) == 0) = false := by
      have : -((m : Int) / 10) ≠ 0 := by omega
      simp; omega
    have ih' : Hid (∀ w : World, Calls Try.prog 53 #[.int .i64 (-((m : Int) / 10))] w fun e w' => e = .returned (.string ⟨(45 :: Lib.decDigits (m / 10)).toArray⟩) ∧ Below w.heap.size w w') := fun w => by
      have := ih (m / 10) (by omega) w (by omega) (by omega)
      rwa [show (-(((m / 10 : Nat)) : Int)) = -((m : Int) / 10) by omega] at this
    have Hd : Hid (Lib.decDigits m = Lib.decDigits (m / 10) ++ [UInt8.ofNat (48 + m % 10)]) := decDigits_step m (by omega)
    have hlen : (Lib.decDigits (m / 10)).length ≤ 19 := by rw [Lib.decDigits_length]; exact nDigits_le _ (by omega)
    clear ih
    generalize Lib.decDigits (m / 10) = D at *
    have e1 : IntKind.i64.wrap (-((m : Int) / 10)) = -((m : Int) / 10) := IntWalk.i64_in _ (by omega)
    have e2 : (m : Int).tmod 10 = (m : Int) % 10 := Int.tmod_eq_emod_of_nonneg (by omega)
    have e3 : IntKind.i64.wrap (48 + (m : Int) % 10) = 48 + (m : Int) % 10 := IntWalk.i64_in _ (by omega)
    have e4 : IntKind.u8.wrap (48 + (m : Int) % 10) = 48 + (m : Int) % 10 := by
      simp [IntKind.wrap, IntKind.bits, IntKind.signed]; omega
    have hcv := fun B W hc => one_byte_at (P := Try.prog) 22 9 5 Try.underlying22 Try.underlying5 Try.underlying9 (48 + (m : Int) % 10) B W hc
    go_enter Try.func53, Try.ntmps53
    go_wp2_with fail
    go_region_with (go_at_call 53; refine (ih'.out _).mono ?_; rintro e w1 ⟨rfl, b1⟩; first | (have hc1 := kept_cell1 b1) | (have hc1 := kept_cell2 b1) | skip)
    all_goals
      go_wp2_with fail
      go_ret
      refine ⟨by rw [Hd.out, of48]; exact congrArg (fun x => Ending.returned (Value.string x)) (cats (45 :: D) [48 + UInt8.ofNat (m % 10)]), ?_⟩
      have hs := b1.size
      first
        | exact ((Below.refl _ _).drew.trans b1).alloc hs _
        | exact ((Below.refl _ w).drew.alloc (Nat.le_refl _) _).trans (b1.mono (by simp))
        | exact (((Below.refl _ w).alloc (Nat.le_refl _) _).drew).trans (b1.mono (by simp))

/-- the model's FormatInt at every int -/
theorem formatInt_spec (n : Int) (w : World) (h : isInt n) :
    Calls Try.prog 53 #[.int .i64 n] w fun e w' => e = .returned (.string ⟨(Lib.itoa n).toArray⟩) ∧ Below w.heap.size w w' := by
  unfold isInt at h
  by_cases hp : n < 0
  · have := formatInt_neg n.natAbs w (by omega) (by omega)
    rw [show (-((n.natAbs : Nat) : Int)) = n by omega, ← itoa_neg n hp] at this
    exact this
  · have := formatInt_nat n.toNat w (by omega)
    rw [show ((n.toNat : Nat) : Int) = n by omega, ← itoa_pos n hp] at this
    exact this
theorem grow_below (w : World) (k : Nat) (os : Array Obj) : Below w.heap.size w (grow (w.drewN k) os) := by
  refine ⟨rfl, rfl, rfl, by simp [grow], fun i hi => ?_⟩
  show (w.heap ++ os)[i]? = w.heap[i]?
  rw [Array.getElem?_append_left hi]
end Go.Proofs.Ytojkonhhaamodaa
