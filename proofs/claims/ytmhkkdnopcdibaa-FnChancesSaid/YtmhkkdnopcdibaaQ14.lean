/-
  Packed: Cur, OrdersImpl, Decisive, Num.
-/
import Derived.Test.YtmhkkdnopcdibaaProg
import Derived.Lib.Hide
import Derived.Outline
import Derived.Deep.QuietTactic
import Derived.BigQuiet
import Derived.Lib.ItoaNum
import Derived.Lib.AtoiAll
import Derived.Test.YtmhkkdnopcdibaaQ1
import Derived.Test.YtmhkkdnopcdibaaQ6
import Derived.Test.YtmhkkdnopcdibaaQ13
set_option linter.unusedVariables false
namespace Go.Proofs.Ytmhkkdnopcdibaa
open Go.RowKit

def IsRow (k : IntKind) (w : World) (a : Option Addr) (len cap : Nat) (zs : List Int) : Prop :=
  (a = none ∧ len = 0 ∧ cap = 0 ∧ zs = []) ∨
  ∃ x, a = some x ∧ len ≤ cap ∧ cap ≤ maxLen ∧ zs.length = cap ∧ (∀ i, i < zs.length → w.cell? (x.add i) = some (.int k (zs.getD i 0))) ∧ ∀ n ∈ zs, (Lit.int k n).wf = true
def ByteRow (w : World) (a : Option Addr) (len : Nat) (g : Nat → Nat) : Prop :=
  0 < len → ∃ b off, a = some ⟨b, off, none⟩ ∧ ∀ i, i < len → w.cell? ⟨b, off + i, none⟩ = some (.int .u8 (g i))
def getN (zs : List Int) (i : Nat) : Nat := (zs.getD i 0).toNat
theorem IsRow.bytes {w : World} {a : Option Addr} {len cap : Nat} {zs : List Int} (h : IsRow .u8 w a len cap zs) : ByteRow w a len (getN zs) ∧ (∀ i, getN zs i ≤ 255) ∧ len ≤ 9223372036854775807 := by
  rcases h with ⟨rfl, rfl, rfl, rfl⟩ | ⟨x, rfl, hl, hm, hz, hc, hw⟩
  · exact ⟨fun h => absurd h (by omega), fun i => by simp [getN], by omega⟩
  · have key : ∀ i, 0 ≤ zs.getD i 0 ∧ zs.getD i 0 ≤ 255 := by
      intro i
      by_cases hi : i < zs.length
      · have := hw zs[i] (List.getElem_mem hi)
        simp [Lit.wf, IntKind.min, IntKind.max, IntKind.signed, IntKind.bits] at this
        simp [List.getD, List.getElem?_eq_getElem hi]; omega
      · simp [List.getD, List.getElem?_eq_none (Nat.le_of_not_lt hi)]
    refine ⟨fun h0 => ?_, fun i => by have := key i; unfold getN; omega, by unfold maxLen at hm; omega⟩
    obtain ⟨b, off, spot⟩ := x
    have hc0 := hc 0 (by omega)
    have hspot : spot = none := by simpa [Addr.add] using World.cell?_spot hc0
    subst hspot
    refine ⟨b, off, rfl, fun i hi => ?_⟩
    have h1 := hc i (by omega)
    have hadd : (⟨b, off, none⟩ : Addr).add i = ⟨b, off + i, none⟩ := by unfold Addr.add; split <;> simp_all
    rw [hadd] at h1
    rw [h1]
    have := key i
    unfold getN
    congr 2
    omega
theorem ByteRow.below {w w' : World} {a : Option Addr} {len B : Nat} {g : Nat → Nat} (h : ByteRow w a len g) (hb : Below B w w') (hB : w.heap.size ≤ B) : ByteRow w' a len g := by
  intro h0
  obtain ⟨b, off, h1, h2⟩ := h h0
  exact ⟨b, off, h1, fun i hi => (hb.cell (p := ⟨b, off + i, none⟩) (Nat.lt_of_lt_of_le (World.block_lt_of_cell? w _ (h2 i hi)) hB)).trans (h2 i hi)⟩

structure Cur (B : Nat) (a : Option Addr) (len cap : Nat) (g : Nat → Nat) (w : World) : Prop where
  blk : ∃ (i : Nat) (h : Int), w.heap[B]? = some (.cells #[.slice a len cap, .int .i64 i, .int .i64 h] 105 (0, 0)) ∧ i ≤ len
  row : ByteRow w a len g
  low : 0 < len → ∀ b off, a = some ⟨b, off, none⟩ → b < B
  small : ∀ i, g i ≤ 255
  fits : len ≤ 9223372036854775807

theorem set2 {w : World} {B : Nat} {s x y : Value} {T : TypeId} (z : Value) (h : w.heap[B]? = some (.cells #[s, x, y] T (0, 0))) : (w.setCell ⟨B, 2, none⟩ z).heap[B]? = some (.cells #[s, x, z] T (0, 0)) := by
  rw [heap_setCell_same w B 2 _ _ _ h]; rfl
theorem set1 {w : World} {B : Nat} {s x y : Value} {T : TypeId} (z : Value) (h : w.heap[B]? = some (.cells #[s, x, y] T (0, 0))) : (w.setCell ⟨B, 1, none⟩ z).heap[B]? = some (.cells #[s, z, y] T (0, 0)) := by
  rw [heap_setCell_same w B 1 _ _ _ h]; rfl
theorem grown_set (w : World) (B j : Nat) (z : Value) : w.grownBy (w.setCell ⟨B, j, none⟩ z) (some B) :=
  ⟨rfl, rfl, rfl, by simp, fun k _ hk => heap_setCell_other w ⟨B, j, none⟩ k z (fun e => hk (by simp [e]))⟩
theorem grown_trans {a b c : World} {row : Option Nat} (h : a.grownBy b row) (k : b.grownBy c row) : a.grownBy c row :=
  ⟨k.os.trans h.os, k.tape.trans h.tape, k.output.trans h.output, Nat.le_trans h.size k.size, fun i hi hne => (k.block i (Nat.lt_of_lt_of_le hi h.size) hne).trans (h.block i hi hne)⟩
theorem grown_drewN {a b : World} {row : Option Nat} (h : a.grownBy b row) (q : Nat) : a.grownBy (b.drewN q) row := ⟨h.os, h.tape, h.output, h.size, h.block⟩
theorem grown_refl (a : World) (row : Option Nat) : a.grownBy a row := ⟨rfl, rfl, rfl, Nat.le_refl _, fun _ _ _ => rfl⟩
theorem ByteRow.grown {w w' : World} {a : Option Addr} {len B : Nat} {g : Nat → Nat} (h : ByteRow w a len g) (hg : w.grownBy w' (some B)) (hl : 0 < len → ∀ b off, a = some ⟨b, off, none⟩ → b < B) : ByteRow w' a len g := by
  intro h0
  obtain ⟨b, off, h1, h2⟩ := h h0
  refine ⟨b, off, h1, fun i hi => hg.cell (h2 i hi) ?_⟩
  have := hl h0 b off h1
  intro e
  simp at e; omega
theorem Cur.to {B : Nat} {a : Option Addr} {len cap : Nat} {g : Nat → Nat} {w w' : World} (h : Cur B a len cap g w) (hg : w.grownBy w' (some B))
    (hb : ∃ (i : Nat) (h : Int), w'.heap[B]? = some (.cells #[.slice a len cap, .int .i64 i, .int .i64 h] 105 (0, 0)) ∧ i ≤ len) : Cur B a len cap g w' :=
  ⟨hb, h.row.grown hg h.low, h.low, h.small, h.fits⟩

theorem and_mask (z : Int) (m : Nat) (hm : m < 2147483648) : ∃ n : Nat, n ≤ m ∧ bits .and .i64 z (m : Int) = (n : Int) := by
  refine ⟨((BitVec.ofInt 64 z) &&& (BitVec.ofInt 64 (m : Int))).toNat, ?_, ?_⟩
  · rw [BitVec.toNat_and, BitVec.ofInt_natCast, BitVec.toNat_ofNat, Nat.mod_eq_of_lt (by omega)]
    exact Nat.and_le_right
  · have h : ((BitVec.ofInt 64 z) &&& (BitVec.ofInt 64 (m : Int))).toNat ≤ m := by
      rw [BitVec.toNat_and, BitVec.ofInt_natCast, BitVec.toNat_ofNat, Nat.mod_eq_of_lt (by omega)]
      exact Nat.and_le_right
    simp only [bits]
    rw [IntKind.wrap_i64]
    show (((((BitVec.ofInt 64 z) &&& (BitVec.ofInt 64 (m : Int))).toNat : Nat) : Int) + 9223372036854775808) % 18446744073709551616 - 9223372036854775808 = _
    omega
theorem and255 (z : Int) : ∃ n : Nat, n ≤ 255 ∧ bits .and .i64 z 255 = (n : Int) := and_mask z 255 (by decide)

def Drawn (B : Nat) (a : Option Addr) (len cap : Nat) (g : Nat → Nat) (lim : Nat) (w : World) (e : Ending) (w' : World) : Prop :=
  ∃ x : Nat, x < lim ∧ e = .returned (.int .i64 (x : Int)) ∧ Cur B a len cap g w' ∧ w.grownBy w' (some B)
theorem drawn_set {B : Nat} {a : Option Addr} {len cap : Nat} {g : Nat → Nat} {lim : Nat} {w w2 : World} {i : Nat} {h2 : Int} (q y : Nat) (hg : w.grownBy w2 (some B)) (hc : Cur B a len cap g w2)
    (hb : w2.heap[B]? = some (.cells #[.slice a len cap, .int .i64 i, .int .i64 h2] 105 (0, 0))) (hi : i < len) (hy : y < lim) :
    Drawn B a len cap g lim w (.returned (.int .i64 (y : Int))) ((w2.drewN q).setCell ⟨B, 1, none⟩ (.int .i64 ((i : Int) + 1))) := by
  have hG : w2.grownBy ((w2.drewN q).setCell ⟨B, 1, none⟩ (.int .i64 ((i : Int) + 1))) (some B) := grown_trans (grown_drewN (grown_refl w2 (some B)) q) (grown_set (w2.drewN q) B 1 (.int .i64 ((i : Int) + 1)))
  exact ⟨y, hy, rfl, hc.to hG ⟨i + 1, h2, set1 (w := w2.drewN q) (.int .i64 ((i : Int) + 1)) hb, hi⟩, grown_trans hg hG⟩
theorem drawn_plain {B : Nat} {a : Option Addr} {len cap : Nat} {g : Nat → Nat} {lim : Nat} {w w2 : World} {i : Nat} {h2 : Int} (q q2 y : Nat) (hg : w.grownBy w2 (some B)) (hc : Cur B a len cap g w2)
    (hb : w2.heap[B]? = some (.cells #[.slice a len cap, .int .i64 i, .int .i64 h2] 105 (0, 0))) (hi : i ≤ len) (hy : y < lim) :
    Drawn B a len cap g lim w (.returned (.int .i64 (y : Int))) ((w2.drewN q).drewN q2) := by
  have hG : w2.grownBy ((w2.drewN q).drewN q2) (some B) := grown_drewN (grown_drewN (grown_refl w2 (some B)) q) q2
  exact ⟨y, hy, rfl, hc.to hG ⟨i, h2, hb, hi⟩, grown_trans hg hG⟩
theorem l01Byte_any (B : Nat) (a : Option Addr) (len cap : Nat) (g : Nat → Nat) (w : World) (hc : Cur B a len cap g w) :
    Calls Try.prog 51 #[.pointer (some ⟨B, 0, none⟩)] w (Drawn B a len cap g 256 w) := by
  obtain ⟨i, h, hB, hi⟩ := hc.blk
  have c2 : w.cell? ⟨B, 2, none⟩ = some (.int .i64 h) := by rw [cell_of_row w B 2 _ _ (0, 0) hB]; rfl
  have f2 : w.frozen? ⟨B, 2, none⟩ = false := frozen_of_row w B 2 _ _ hB
  have hfit := hc.fits
  have HB := Lib.hid hB
  clear hB
  have HC := Lib.hid hc
  clear hc
  go_enter Try.func51, Try.ntmps51
  go_wp2
  generalize wrap64 (wrap64 (h * 6364136223846793005) + 1442695040888963407) = h2
  have HB2 := Lib.hid (set2 (.int .i64 h2) HB.out)
  have HG2 := Lib.hid (grown_set w B 2 (.int .i64 h2))
  have HC2 := Lib.hid (HC.out.to HG2.out ⟨i, h2, HB2.out, hi⟩)
  generalize w.setCell ⟨B, 2, none⟩ (.int .i64 h2) = w2 at *
  clear c2 f2 HB HC
  have c0 : w2.cell? ⟨B, 0, none⟩ = some (.slice a len cap) := by rw [cell_of_row w2 B 0 _ _ (0, 0) HB2.out]; rfl
  have c1 : w2.cell? ⟨B, 1, none⟩ = some (.int .i64 i) := by rw [cell_of_row w2 B 1 _ _ (0, 0) HB2.out]; rfl
  have c2 : w2.cell? ⟨B, 2, none⟩ = some (.int .i64 h2) := by rw [cell_of_row w2 B 2 _ _ (0, 0) HB2.out]; rfl
  have f1 : w2.frozen? ⟨B, 1, none⟩ = false := frozen_of_row w2 B 1 _ _ HB2.out
  by_cases hlt : i < len
  · obtain ⟨b, off, rfl, hcell⟩ := HC2.out.row (by omega)
    have hcb := hcell i hlt
    have hgi := HC2.out.small i
    have hne : ¬ (b = B) := by have := HC2.out.low (by omega) b off rfl; omega
    clear hcell
    obtain ⟨x, hx, hxe⟩ := and255 (bits BinOp.xor IntKind.i64 (h2 / 8589934592) (h2 / 35184372088832))
    go_quiet (fail)
    go_wp2
    clear hxe
    go_quiet (fail)
    go_wp2
    obtain ⟨y, hy, hye⟩ := and255 ((x : Int) + (g i : Int))
    have hwr : IntKind.i64.wrap ((x : Int) + (g i : Int)) = (x : Int) + (g i : Int) := by rw [IntKind.wrap_i64]; omega
    go_quiet (fail)
    go_wp2
    go_ret
    exact drawn_set _ y HG2.out HC2.out HB2.out hlt (by omega)
  · obtain ⟨x, hx, hxe⟩ := and255 (bits BinOp.xor IntKind.i64 (h2 / 8589934592) (h2 / 35184372088832))
    go_quiet (fail)
    go_wp2
    clear hxe
    go_quiet (fail)
    go_wp2
    go_ret
    exact drawn_plain _ _ x HG2.out HC2.out HB2.out hi (by omega)

theorem l01Below_small (B : Nat) (a : Option Addr) (len cap : Nat) (g : Nat → Nat) (n : Nat) (w : World) (hc : Cur B a len cap g w) (h0 : 0 < n) (hn : n ≤ 256) :
    Calls Try.prog 75 #[.pointer (some ⟨B, 0, none⟩), .int .i64 (n : Int)] w (Drawn B a len cap g n w) := by
  have g0 : decide ((n : Int) ≤ 0) = false := decide_eq_false (by omega)
  have g1 : decide ((n : Int) ≤ 256) = true := decide_eq_true (by omega)
  have HC := Lib.hid hc
  clear hc
  go_enter Try.func75, Try.ntmps75
  go_wp2_with fail
  refine (l01Byte_any B a len cap g _ HC.out).mono ?_
  rintro e w1 ⟨x, hx, rfl, c1, g1⟩
  have Hc1 := Lib.hid c1
  have Hg1 := Lib.hid g1
  clear c1 g1
  go_wp2
  go_ret
  exact ⟨x % n, Nat.mod_lt _ h0, by simp, Hc1.out, Hg1.out⟩
theorem l01Below_big (B : Nat) (a : Option Addr) (len cap : Nat) (g : Nat → Nat) (n : Nat) (w : World) (hc : Cur B a len cap g w) (hn : 256 < n) (hn2 : n ≤ 9223372036854775807) :
    Calls Try.prog 75 #[.pointer (some ⟨B, 0, none⟩), .int .i64 (n : Int)] w (Drawn B a len cap g n w) := by
  have g0 : decide ((n : Int) ≤ 0) = false := decide_eq_false (by omega)
  have g1 : decide ((n : Int) ≤ 256) = false := decide_eq_false (by omega)
  have HC := Lib.hid hc
  clear hc
  go_enter Try.func75, Try.ntmps75
  go_wp2_with fail
  refine (l01Byte_any B a len cap g _ HC.out).mono ?_
  rintro e w1 ⟨x1, hx1, rfl, c1, r1⟩
  have Hc1 := Lib.hid c1
  have Hr1 := Lib.hid r1
  clear c1 r1
  go_wp2_with fail
  refine (l01Byte_any B a len cap g _ Hc1.out).mono ?_
  rintro e w2 ⟨x2, hx2, rfl, c2, r2⟩
  have Hc2 := Lib.hid c2
  have Hr2 := Lib.hid (grown_trans Hr1.out r2)
  clear c2 r2
  go_wp2_with fail
  refine (l01Byte_any B a len cap g _ Hc2.out).mono ?_
  rintro e w3 ⟨x3, hx3, rfl, c3, r3⟩
  have Hc3 := Lib.hid c3
  have Hr3 := Lib.hid (grown_trans Hr2.out r3)
  clear c3 r3
  go_wp2_with fail
  refine (l01Byte_any B a len cap g _ Hc3.out).mono ?_
  rintro e w4 ⟨x4, hx4, rfl, c4, r4⟩
  have Hc4 := Lib.hid c4
  have Hr4 := Lib.hid (grown_trans Hr3.out r4)
  clear c4 r4
  go_wp2
  go_ret
  exact ⟨(x1 * 16777216 + x2 * 65536 + x3 * 256 + x4) % n, Nat.mod_lt _ (by omega), by simp, Hc4.out, Hr4.out⟩
theorem l01Below_any (B : Nat) (a : Option Addr) (len cap : Nat) (g : Nat → Nat) (n : Nat) (w : World) (hc : Cur B a len cap g w) (h0 : 0 < n) (hn2 : n ≤ 9223372036854775807) :
    Calls Try.prog 75 #[.pointer (some ⟨B, 0, none⟩), .int .i64 (n : Int)] w (Drawn B a len cap g n w) := by
  by_cases h : n ≤ 256
  · exact l01Below_small B a len cap g n w hc h0 h
  · exact l01Below_big B a len cap g n w hc (by omega) hn2

def CurMade (a : Option Addr) (len cap : Nat) (g : Nat → Nat) (w : World) (e : Ending) (w' : World) : Prop :=
  ∃ B, e = .returned (.pointer (some ⟨B, 0, none⟩)) ∧ w.heap.size ≤ B ∧ Cur B a len cap g w' ∧ Below w.heap.size w w'
theorem cur_made {a : Option Addr} {len cap : Nat} {g : Nat → Nat} {w : World} (h : Int) (hr : ByteRow w a len g) (hg : ∀ i, g i ≤ 255) (hl : len ≤ 1048576) :
    CurMade a len cap g w (.returned (.pointer (some ⟨w.heap.size, 0, none⟩))) (w.alloc (.cells #[.slice a len cap, .int .i64 0, .int .i64 h] 105)) := by
  have hb : Below w.heap.size w (w.alloc (.cells #[.slice a len cap, .int .i64 0, .int .i64 h] 105)) := (Below.refl _ _).alloc (Nat.le_refl _) _
  refine ⟨w.heap.size, rfl, Nat.le_refl _, ⟨⟨0, h, heap_alloc_new w _, Nat.zero_le _⟩, hr.below hb (Nat.le_refl _), fun h0 b off e => ?_, hg, by omega⟩, hb⟩
  obtain ⟨b', off', e', hc⟩ := hr h0
  rw [e'] at e
  simp only [Option.some.injEq, Addr.mk.injEq] at e
  rw [← e.1]
  exact World.block_lt_of_cell? w _ (hc 0 h0)
set_option maxRecDepth 100000 in
theorem l01New_any (a : Option Addr) (len cap : Nat) (g : Nat → Nat) (w : World) (hr : ByteRow w a len g) (hg : ∀ i, g i ≤ 255) (hl : len ≤ 1048576) :
    Calls Try.prog 42 #[.slice a len cap] w (CurMade a len cap g w) := by
  have HR := Lib.hid hr
  have HG := Lib.hid hg
  clear hr hg
  go_enter Try.func42, Try.ntmps42
  go_wp2
  go_loop [3, 4] (fun hv i => ∃ (j : Nat) (h : Int), j ≤ len ∧ i = .int .i64 j ∧ hv = .int .i64 h) (fun _ i => len - (RowKit.intOf i).toNat)
  case atStart => exact ⟨0, _, Nat.zero_le _, rfl, rfl⟩
  case round =>
    obtain ⟨j, h, hj, rfl, rfl⟩ := hrel
    by_cases hlt : j < len
    · by_cases h4 : j < 4000
      · obtain ⟨b, off, rfl, hcell⟩ := HR.out (by omega)
        have hc := hcell j hlt
        have hgj := HG.out j
        clear hcell
        go_wp2
        go_round
        case rel => exact ⟨j + 1, _, by omega, by go_num, rfl⟩
        case measure => simp [RowKit.intOf]; omega
      · go_wp2
        go_ret
        exact cur_made h HR.out HG.out hl
    · go_wp2
      go_ret
      exact cur_made h HR.out HG.out hl

theorem l27New_any (a : Option Addr) (len cap n : Nat) (g : Nat → Nat) (w : World) (hr : ByteRow w a len g) (hg : ∀ i, g i ≤ 255) (hl : len ≤ 1048576) (hn : n ≤ 1000000) :
    Calls Try.prog 50 #[.slice a len cap, .int .i64 (n : Int)] w (CurMade a len cap g w) := by
  have C := Lib.hid (l01New_any a len cap g w hr hg hl)
  clear hr hg hl
  go_enter Try.func50, Try.ntmps50
  go_wp2_with fail
  refine C.out.mono ?_
  rintro e w1 ⟨B, rfl, hB, hc, hb⟩
  clear C
  have HC := Lib.hid hc
  clear hc
  go_wp2_with fail
  go_loopw [6] (fun i wr => ∃ j : Nat, j ≤ n ∧ i = .int .i64 j ∧ Hid (Cur B a len cap g wr) ∧ Below w.heap.size w wr) (fun i _ => n - (RowKit.intOf i).toNat)
  case atStart => exact ⟨0, Nat.zero_le _, rfl, HC.out, hb⟩
  case round =>
    obtain ⟨j, hj, rfl, hcr, hbr⟩ := hrel
    clear HC hb
    by_cases hlt : j < n
    · go_wp2_with (go_at_call 51; refine (l01Byte_any B a len cap g _ hcr.out).mono ?_; rintro e w2 ⟨x, hx, rfl, c2, r2⟩; have hk := Lib.hid c2; clear c2)
      go_roundw
      case rel =>
        have hsz := hbr.size
        exact ⟨j + 1, by omega, by go_num, by assumption, hbr.grown (by assumption) hsz (fun k hk => by cases hk; exact hB)⟩
      case measure => simp [RowKit.intOf]; omega
    · go_wp2
      go_ret
      exact ⟨B, rfl, hB, hcr.out, hbr⟩
theorem makeNum_any (a : Option Addr) (len cap n : Nat) (g : Nat → Nat) (w : World) (hr : ByteRow w a len g) (hg : ∀ i, g i ≤ 255) (hl : len ≤ 1048576) (hn : n ≤ 1000000) :
    Calls Try.prog 16 #[.slice a len cap, .int .i64 (n : Int)] w fun e w' => (∃ x : Nat, x < 65536 ∧ e = .returned (.int .i64 (x : Int))) ∧ Below w.heap.size w w' := by
  have C := Lib.hid (l27New_any a len cap n g w hr hg hl hn)
  clear hr hg hl
  go_enter Try.func16, Try.ntmps16
  go_wp2_with fail
  refine C.out.mono ?_
  rintro e w1 ⟨B, rfl, hB, hc, hb⟩
  clear C
  have HC := Lib.hid hc
  clear hc
  go_wp2_with fail
  refine (l01Byte_any B a len cap g _ HC.out).mono ?_
  rintro e w2 ⟨x, hx, rfl, c2, r2⟩
  have hs1 := hb.size
  have hb2 := hb.grown r2 hs1 (fun k hk => by cases hk; exact hB)
  have HC2 := Lib.hid c2
  clear c2 r2 HC
  go_wp2_with fail
  refine (l01Byte_any B a len cap g _ HC2.out).mono ?_
  rintro e w3 ⟨y, hy, rfl, c3, r3⟩
  have hs2 := hb2.size
  have hb3 := hb2.grown r3 hs2 (fun k hk => by cases hk; exact hB)
  clear c3 r3 HC2
  go_wp2
  go_ret
  exact ⟨⟨x * 256 + y, by omega, by simp⟩, hb3⟩

def mtL : Nat → ByteArray
  | 0 => ⟨#[97]⟩
  | 1 => ⟨#[98, 99]⟩
  | 2 => ⟨#[32]⟩
  | 3 => ⟨#[44]⟩
  | _ => ⟨#[120, 49]⟩
theorem mtL_size (i : Nat) : (mtL i).size ≤ 2 := by
  match i with
  | 0 => decide
  | 1 => decide
  | 2 => decide
  | 3 => decide
  | n + 4 => show (2 : Nat) ≤ 2; omega
end Go.Proofs.Ytmhkkdnopcdibaa
set_option linter.unusedVariables false
namespace Go.Proofs.Ytmhkkdnopcdibaa
open Go.RowKit

theorem IsRow.ints {w : World} {a : Option Addr} {len cap : Nat} {zs : List Int} (h : IsRow .i64 w a len cap zs) : IntRow w (.slice a len cap) len (getI zs) ∧ len ≤ 9223372036854775807 := by
  rcases h with ⟨rfl, rfl, rfl, rfl⟩ | ⟨x, rfl, hl, hm, hz, hc, _⟩
  · exact ⟨.inl ⟨_, _, rfl, rfl⟩, by omega⟩
  · unfold maxLen at hm
    refine ⟨?_, by omega⟩
    by_cases h0 : len = 0
    · subst h0; exact .inl ⟨_, _, rfl, rfl⟩
    · obtain ⟨b, off, spot⟩ := x
      have hspot : spot = none := by simpa [Addr.add] using World.cell?_spot (hc 0 (by omega))
      subst hspot
      refine .inr ⟨b, off, cap, rfl, by omega, by omega, fun i hi => ?_, hl⟩
      have hadd : (⟨b, off, none⟩ : Addr).add i = ⟨b, off + i, none⟩ := by unfold Addr.add; split <;> simp_all
      rw [← hadd]
      exact hc i (by omega)

theorem slicesIndex_int (v : Value) (n : Nat) (g : Nat → Int) (x : Int) (w : World) (h : IntRow w v n g) :
    Calls Try.prog 95 #[v, .int .i64 x] w fun e w' => e = .returned (.int .i64 (placeI g x n 0)) ∧ w = w' := by
  obtain ⟨a, cap, rfl, hn, hv⟩ := h.form
  have HV := Lib.hid hv
  clear hv h
  generalize hr : placeI g x n 0 = R
  have HR := Lib.hid hr
  clear hr
  go_enter Try.func95, Try.ntmps95
  go_wp2
  go_loop [8] (fun i => ∃ k : Nat, k ≤ n ∧ i = .int .i64 k ∧ Hid (placeI g x (n - k) k = R)) (fun i => n - (RowKit.intOf i).toNat)
  case atStart => exact ⟨0, Nat.zero_le _, rfl, HR.out⟩
  case round =>
    obtain ⟨k, hk, rfl, hp⟩ := hrel
    by_cases hlt : k < n
    · obtain ⟨b, off, rfl, hc⟩ := HV.out (by omega)
      have c1 := hc k hlt
      have hstep : (if g k = x then (k : Int) else placeI g x (n - (k + 1)) (k + 1)) = R := by
        have := hp.out
        rw [show n - k = n - (k + 1) + 1 by omega] at this
        exact this
      clear hc HV hp
      by_cases hx : g k = x
      · rw [if_pos hx] at hstep
        subst hstep
        clear HR
        rw [hx] at c1
        clear hx
        go_wp2
        go_ret
        exact ⟨rfl, rfl⟩
      · rw [if_neg hx] at hstep
        have HS := Lib.hid hstep
        have g1 : (x == g k) = false := by simpa using fun h : x = g k => hx h.symm
        clear hx hstep
        generalize g k = y at c1 g1
        go_wp2
        go_round
        case rel => exact ⟨k + 1, by omega, by go_num, HS.out⟩
        case measure => simp [RowKit.intOf]; omega
    · obtain rfl : k = n := by omega
      have hR : R = -1 := by rw [← hp.out, Nat.sub_self]; rfl
      subst hR
      clear hp HR
      go_wp2
      go_ret
      exact ⟨rfl, rfl⟩
def Seen8 (w : World) (B : Nat) (S : Nat → Bool) : Prop := B < w.heap.size ∧ ∀ j, j < 8 → w.cell? ⟨B, j, none⟩ = some (.bool (S j)) ∧ w.frozen? ⟨B, j, none⟩ = false
theorem Seen8.made (w : World) (t : TypeId) : Seen8 (w.alloc (.cells #[.bool false, .bool false, .bool false, .bool false, .bool false, .bool false, .bool false, .bool false] t)) w.heap.size (fun _ => false) := by
  refine ⟨by simp, fun j hj => ⟨?_, ?_⟩⟩
  · rw [cell_of_row _ w.heap.size j _ t (0, 0) (heap_alloc_new w _)]
    have : j = 0 ∨ j = 1 ∨ j = 2 ∨ j = 3 ∨ j = 4 ∨ j = 5 ∨ j = 6 ∨ j = 7 := by omega
    rcases this with rfl | rfl | rfl | rfl | rfl | rfl | rfl | rfl <;> rfl
  · exact frozen_of_row _ w.heap.size j _ t (heap_alloc_new w _)
theorem Seen8.set {w : World} {B : Nat} {S : Nat → Bool} (h : Seen8 w B S) (m : Nat) (hm : m < 8) : Seen8 (w.setCell ⟨B, m, none⟩ (.bool true)) B (fun j => S j || decide (j = m)) := by
  refine ⟨by simpa [World.setCell] using h.1, fun j hj => ⟨?_, (World.frozen?_setCell _ _ _ _).trans (h.2 j hj).2⟩⟩
  by_cases hjm : j = m
  · subst hjm
    rw [World.cell?_setCell_same' _ _ _ (by rw [(h.2 j hj).1]; rfl)]
    simp
  · rw [World.cell?_setCell_other _ _ _ _ (by intro e; simp only [Addr.mk.injEq] at e; omega), (h.2 j hj).1]
    simp [hjm]
end Go.Proofs.Ytmhkkdnopcdibaa
set_option linter.unusedVariables false
namespace Go.Proofs.Ytmhkkdnopcdibaa
open Go.RowKit

theorem placeI_pos (g : Nat → Int) (x : Int) (r : Nat) : ∀ k, 0 ≤ placeI g x r k ↔ ∃ j, k ≤ j ∧ j < k + r ∧ g j = x := by
  induction r with
  | zero => intro k; unfold placeI; constructor
            · intro h; omega
            · rintro ⟨j, h1, h2, _⟩; omega
  | succ r ih =>
    intro k
    unfold placeI
    by_cases h : g k = x
    · rw [if_pos h]
      exact ⟨fun _ => ⟨k, Nat.le_refl _, by omega, h⟩, fun _ => by omega⟩
    · rw [if_neg h, ih (k + 1)]
      constructor
      · rintro ⟨j, h1, h2, h3⟩; exact ⟨j, by omega, by omega, h3⟩
      · rintro ⟨j, h1, h2, h3⟩
        refine ⟨j, ?_, by omega, h3⟩
        rcases Nat.lt_or_ge k j with h4 | h4
        · omega
        · obtain rfl : j = k := by omega
          exact absurd h3 h
theorem placeI_has (g : Nat → Int) (x : Int) (n : Nat) : 0 ≤ placeI g x n 0 ↔ hasP g x n := by
  rw [placeI_pos]
  constructor
  · rintro ⟨j, _, h2, h3⟩; exact ⟨j, by omega, h3⟩
  · rintro ⟨j, h2, h3⟩; exact ⟨j, by omega, by omega, h3⟩
theorem slicesContains_int (v : Value) (n : Nat) (g : Nat → Int) (x : Int) (R : Bool) (w : World) (hR : R = true ↔ hasP g x n) (h : IntRow w v n g) :
    Calls Try.prog 86 #[v, .int .i64 x] w fun e w' => e = .returned (.bool R) ∧ w = w' := by
  have H := Lib.hid (slicesIndex_int v n g x w h)
  have hp : R = decide (0 ≤ placeI g x n 0) := by
    rw [Bool.eq_iff_iff, hR, decide_eq_true_eq, placeI_has]
  generalize placeI g x n 0 = q at *
  subst hp
  clear h hR
  go_enter Try.func86, Try.ntmps86
  go_wp2_with (go_at_call 95; refine H.out.mono ?_; rintro e w' ⟨rfl, rfl⟩)
  go_ret
  exact ⟨rfl, rfl⟩
theorem cells5 {w w2 : World} {t : TypeId} {a b c d f : Value} (h : Below (w.alloc (.cells #[a, b, c, d, f] t)).heap.size (w.alloc (.cells #[a, b, c, d, f] t)) w2) :
    w2.cell? ⟨w.heap.size, 0, none⟩ = some a ∧ w2.cell? ⟨w.heap.size, 1, none⟩ = some b ∧ w2.cell? ⟨w.heap.size, 2, none⟩ = some c ∧ w2.cell? ⟨w.heap.size, 3, none⟩ = some d ∧ w2.cell? ⟨w.heap.size, 4, none⟩ = some f := by
  have k : ∀ j, w2.cell? ⟨w.heap.size, j, none⟩ = #[a, b, c, d, f][j]? := fun j => by
    rw [h.cell (p := ⟨w.heap.size, j, none⟩) (by simp), cell_of_row _ w.heap.size j _ t (0, 0) (heap_alloc_new w _)]
  exact ⟨k 0, k 1, k 2, k 3, k 4⟩
theorem cells5_below {w w2 : World} {B : Nat} {a b c d f : Value} (k : w.cell? ⟨B, 0, none⟩ = some a ∧ w.cell? ⟨B, 1, none⟩ = some b ∧ w.cell? ⟨B, 2, none⟩ = some c ∧ w.cell? ⟨B, 3, none⟩ = some d ∧ w.cell? ⟨B, 4, none⟩ = some f) (h : Below w.heap.size w w2) :
    w2.cell? ⟨B, 0, none⟩ = some a ∧ w2.cell? ⟨B, 1, none⟩ = some b ∧ w2.cell? ⟨B, 2, none⟩ = some c ∧ w2.cell? ⟨B, 3, none⟩ = some d ∧ w2.cell? ⟨B, 4, none⟩ = some f := by
  have hb : B < w.heap.size := World.block_lt_of_cell? w _ k.1
  exact ⟨(h.cell (p := ⟨B, 0, none⟩) hb).trans k.1, (h.cell (p := ⟨B, 1, none⟩) hb).trans k.2.1, (h.cell (p := ⟨B, 2, none⟩) hb).trans k.2.2.1, (h.cell (p := ⟨B, 3, none⟩) hb).trans k.2.2.2.1, (h.cell (p := ⟨B, 4, none⟩) hb).trans k.2.2.2.2⟩
def decisiveP (win draw loss : Int) (n : Nat) (g : Nat → Int) : Prop := rulesP win draw loss n g ∧ hasP g 8 n
end Go.Proofs.Ytmhkkdnopcdibaa
set_option linter.unusedVariables false
namespace Go.Proofs.Ytmhkkdnopcdibaa
open Go.Lib

theorem decDigits_step (u : Nat) (h : ¬ u < 10) : decDigits u = decDigits (u / 10) ++ [UInt8.ofNat (48 + u % 10)] := by rw [decDigits, dif_neg h]
theorem dig_toNat (d : Nat) (h : d < 10) : (UInt8.ofNat (48 + d)).toNat = 48 + d := by
  rw [UInt8.toNat_ofNat']; omega
theorem decDigits_dig (u : Nat) : ∀ b ∈ decDigits u, 48 ≤ b.toNat ∧ b.toNat ≤ 57 := by
  induction u using Nat.strongRecOn with
  | _ u ih =>
    intro b hb
    by_cases h : u < 10
    · rw [decDigits_one h] at hb
      simp only [List.mem_singleton] at hb
      rw [hb, dig_toNat u h]; omega
    · rw [decDigits_step u h] at hb
      simp only [List.mem_append, List.mem_singleton] at hb
      rcases hb with hb | hb
      · exact ih (u / 10) (by omega) b hb
      · rw [hb, dig_toNat (u % 10) (by omega)]; omega
def valL (l : List UInt8) : Nat := l.foldl (fun a b => a * 10 + (b.toNat - 48)) 0
theorem valL_nil : valL [] = 0 := rfl
theorem valL_snoc (l : List UInt8) (b : UInt8) : valL (l ++ [b]) = valL l * 10 + (b.toNat - 48) := by simp [valL]
theorem valL_decDigits (u : Nat) : valL (decDigits u) = u := by
  induction u using Nat.strongRecOn with
  | _ u ih =>
    by_cases h : u < 10
    · rw [decDigits_one h]
      show 0 * 10 + ((UInt8.ofNat (48 + u)).toNat - 48) = u
      rw [dig_toNat u h]; omega
    · rw [decDigits_step u h, valL_snoc, ih (u / 10) (by omega), dig_toNat (u % 10) (by omega)]; omega
theorem decDigits_ne (u : Nat) : decDigits u ≠ [] := by
  have h1 := decDigits_length u
  have h2 := nDigits_pos u
  intro h
  rw [h] at h1
  simp at h1; omega
theorem decDigits_cons (u : Nat) : ∃ b r, decDigits u = b :: r ∧ 48 ≤ b.toNat ∧ b.toNat ≤ 57 := by
  cases h : decDigits u with
  | nil => exact absurd h (decDigits_ne u)
  | cons b r => exact ⟨b, r, rfl, decDigits_dig u b (by rw [h]; exact List.mem_cons_self ..)⟩
theorem valL_take_le (l : List UInt8) : ∀ j k, j ≤ k → valL (l.take j) ≤ valL (l.take k) := by
  intro j k hjk
  induction k with
  | zero => obtain rfl : j = 0 := by omega
            exact Nat.le_refl _
  | succ k ih =>
    by_cases h : j = k + 1
    · rw [h]; exact Nat.le_refl _
    · refine Nat.le_trans (ih (by omega)) ?_
      by_cases hk : k < l.length
      · rw [List.take_succ_eq_append_getElem hk, valL_snoc]; omega
      · rw [List.take_of_length_le (by omega), List.take_of_length_le (by omega)]; exact Nat.le_refl _
theorem nDigits_le (u : Nat) (h : u ≤ 9223372036854775808) : nDigits u ≤ 19 := by
  by_cases h19 : nDigits u ≤ 19
  · exact h19
  · exfalso
    have key : ∀ k v : Nat, v < 10 ^ (k + 1) → nDigits v ≤ k + 1 := by
      intro k
      induction k with
      | zero => intro v hv; rw [nDigits_small (by simpa using hv)]; exact Nat.le_refl _
      | succ k ih =>
        intro v hv
        by_cases hs : v < 10
        · rw [nDigits_small hs]; omega
        · rw [nDigits_big hs]
          have := ih (v / 10) (by rw [Nat.pow_succ] at hv; omega)
          omega
    have := key 18 u (by have : (10 : Nat) ^ (18 + 1) = 10000000000000000000 := by decide
                         omega)
    omega

def isInt (n : Int) : Prop := -9223372036854775808 ≤ n ∧ n ≤ 9223372036854775807
theorem itoa_neg (n : Int) (h : n < 0) : itoa n = 45 :: decDigits n.natAbs := by simp [itoa, h]
theorem itoa_pos (n : Int) (h : ¬ n < 0) : itoa n = decDigits n.toNat := by simp [itoa, h]
theorem itoa_inj {a b : Int} (h : itoa a = itoa b) : a = b := by
  by_cases ha : a < 0
  · by_cases hb : b < 0
    · rw [itoa_neg a ha, itoa_neg b hb] at h
      have h1 := congrArg valL (List.cons.inj h).2
      rw [valL_decDigits, valL_decDigits] at h1
      omega
    · rw [itoa_neg a ha, itoa_pos b hb] at h
      obtain ⟨x, r, hx, h1, h2⟩ := decDigits_cons b.toNat
      rw [hx] at h
      have := congrArg UInt8.toNat (List.cons.inj h).1
      simp at this; omega
  · by_cases hb : b < 0
    · rw [itoa_pos a ha, itoa_neg b hb] at h
      obtain ⟨x, r, hx, h1, h2⟩ := decDigits_cons a.toNat
      rw [hx] at h
      have := congrArg UInt8.toNat (List.cons.inj h).1
      simp at this; omega
    · rw [itoa_pos a ha, itoa_pos b hb] at h
      have h1 := congrArg valL h
      rw [valL_decDigits, valL_decDigits] at h1
      omega
def parsed (l : List UInt8) (v : Int) (ok : Bool) : Prop := if ok = true then isInt v ∧ itoa v = l else v = 0 ∧ ∀ n, isInt n → itoa n ≠ l
theorem parsed_unique {l : List UInt8} {v v' : Int} {b b' : Bool} (h : parsed l v b) (h' : parsed l v' b') : v = v' ∧ b = b' := by
  unfold parsed at h h'
  cases b <;> cases b' <;> simp at h h'
  · exact ⟨by rw [h.1, h'.1], rfl⟩
  · exact absurd h'.2 (h.2 v' h'.1)
  · exact absurd h.2 (h'.2 v h.1)
  · exact ⟨itoa_inj (h.2.trans h'.2.symm), rfl⟩

theorem canon_pos {n : Int} {l : List UInt8} (hn : isInt n) (h : itoa n = l) (hl : ∀ r, l ≠ 45 :: r) : l ≠ [] ∧ (∀ b ∈ l, 48 ≤ b.toNat ∧ b.toNat ≤ 57) ∧ l.length ≤ 19 ∧ valL l ≤ 9223372036854775807 ∧ n = valL l := by
  have hp : ¬ n < 0 := fun hp => hl _ (by rw [← h, itoa_neg n hp])
  rw [itoa_pos n hp] at h
  subst h
  have h1 := decDigits_length n.toNat
  have h2 := nDigits_le n.toNat (by unfold isInt at hn; omega)
  refine ⟨decDigits_ne _, decDigits_dig _, by omega, ?_, ?_⟩
  · rw [valL_decDigits]; unfold isInt at hn; omega
  · rw [valL_decDigits]; omega
theorem canon_neg {n : Int} {r : List UInt8} (hn : isInt n) (h : itoa n = 45 :: r) : r ≠ [] ∧ (∀ b ∈ r, 48 ≤ b.toNat ∧ b.toNat ≤ 57) ∧ r.length ≤ 19 ∧ valL r ≤ 9223372036854775808 ∧ n = -(valL r : Int) := by
  have hp : n < 0 := by
    by_cases hp : n < 0
    · exact hp
    · rw [itoa_pos n hp] at h
      obtain ⟨x, r', hx, h1, h2⟩ := decDigits_cons n.toNat
      rw [hx] at h
      have := congrArg UInt8.toNat (List.cons.inj h).1
      simp at this; omega
  rw [itoa_neg n hp] at h
  have h := (List.cons.inj h).2
  subst h
  have h1 := decDigits_length n.natAbs
  have h2 := nDigits_le n.natAbs (by unfold isInt at hn; omega)
  refine ⟨decDigits_ne _, decDigits_dig _, by omega, ?_, ?_⟩
  · rw [valL_decDigits]; unfold isInt at hn; omega
  · rw [valL_decDigits]; omega
end Go.Proofs.Ytmhkkdnopcdibaa
