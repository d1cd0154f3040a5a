/-
  Packed: Cur, RulesMake, SeasonMake, SeasonMake2, Num.
-/
import Derived.Test.YteciobkjfmddcaaGreatProg
import Derived.Lib.Hide
import Derived.Outline
import Derived.Deep.QuietTactic
import Derived.BigQuiet
import Derived.Deep.DeepCutAuto
import Derived.Lib.ItoaNum
import Derived.Lib.AtoiAll
import Derived.Test.YteciobkjfmddcaaGreatQ1
import Derived.Test.YteciobkjfmddcaaGreatQ3
import Derived.Test.YteciobkjfmddcaaGreatQ6
set_option linter.unusedVariables false
namespace Go.Proofs.YteciobkjfmddcaaGreat
open Go.RowKit

def IsRow (k : IntKind) (w : World) (a : Option Addr) (len cap : Nat) (zs : List Int) : Prop :=
  (a = none ∧ len = 0 ∧ cap = 0 ∧ zs = []) ∨
  ∃ x, a = some x ∧ len ≤ cap ∧ cap ≤ maxLen ∧ zs.length = cap ∧ (∀ i, i < zs.length → w.cell? (x.add i) = some (.int k (zs.getD i 0))) ∧ ∀ n ∈ zs, (Lit.int k n).wf = true
def ByteRow (w : World) (a : Option Addr) (len : Nat) (g : Nat → Nat) : Prop :=
  0 < len → ∃ b off, a = some ⟨b, off, none⟩ ∧ ∀ i, i < len → w.cell? ⟨b, off + i, none⟩ = some (.int .u8 (g i))
def getN (zs : List Int) (i : Nat) : Nat := (zs.getD i 0).toNat
theorem IsRow.bytes {w : World} {a : Option Addr} {len cap : Nat} {zs : List Int} (h : IsRow .u8 w a len cap zs) : ByteRow w a len (getN zs) ∧ (∀ i, getN zs i ≤ 255) ∧ len ≤ 9223372036854775807 := by
  rcases h with ⟨rfl, rfl, rfl, rfl⟩ | ⟨x, rfl, hl, hm, hz, hc, hw⟩
  · exact ⟨fun h => absurd h (by omega), fun i => by simp [getN], by omega⟩
  · have key : ∀ i, 0 ≤ zs.getD i 0 ∧ zs.getD i 0 ≤ 255 := by
      intro i
      by_cases hi : i < zs.length
      · have := hw zs[i] (List.getElem_mem hi)
        simp [Lit.wf, IntKind.min, IntKind.max, IntKind.signed, IntKind.bits] at this
        simp [List.getD, List.getElem?_eq_getElem hi]; omega
      · simp [List.getD, List.getElem?_eq_none (Nat.le_of_not_lt hi)]
    refine ⟨fun h0 => ?_, fun i => by have := key i; unfold getN; omega, by unfold maxLen at hm; omega⟩
    obtain ⟨b, off, spot⟩ := x
    have hc0 := hc 0 (by omega)
    have hspot : spot = none := by simpa [Addr.add] using World.cell?_spot hc0
    subst hspot
    refine ⟨b, off, rfl, fun i hi => ?_⟩
    have h1 := hc i (by omega)
    have hadd : (⟨b, off, none⟩ : Addr).add i = ⟨b, off + i, none⟩ := by unfold Addr.add; split <;> simp_all
    rw [hadd] at h1
    rw [h1]
    have := key i
    unfold getN
    congr 2
    omega
theorem ByteRow.below {w w' : World} {a : Option Addr} {len B : Nat} {g : Nat → Nat} (h : ByteRow w a len g) (hb : Below B w w') (hB : w.heap.size ≤ B) : ByteRow w' a len g := by
  intro h0
  obtain ⟨b, off, h1, h2⟩ := h h0
  exact ⟨b, off, h1, fun i hi => (hb.cell (p := ⟨b, off + i, none⟩) (Nat.lt_of_lt_of_le (World.block_lt_of_cell? w _ (h2 i hi)) hB)).trans (h2 i hi)⟩

structure Cur (B : Nat) (a : Option Addr) (len cap : Nat) (g : Nat → Nat) (w : World) : Prop where
  blk : ∃ (i : Nat) (h : Int), w.heap[B]? = some (.cells #[.slice a len cap, .int .i64 i, .int .i64 h] 97 (0, 0)) ∧ i ≤ len
  row : ByteRow w a len g
  low : 0 < len → ∀ b off, a = some ⟨b, off, none⟩ → b < B
  small : ∀ i, g i ≤ 255
  fits : len ≤ 9223372036854775807

theorem set2 {w : World} {B : Nat} {s x y : Value} {T : TypeId} (z : Value) (h : w.heap[B]? = some (.cells #[s, x, y] T (0, 0))) : (w.setCell ⟨B, 2, none⟩ z).heap[B]? = some (.cells #[s, x, z] T (0, 0)) := by
  rw [heap_setCell_same w B 2 _ _ _ h]; rfl
theorem set1 {w : World} {B : Nat} {s x y : Value} {T : TypeId} (z : Value) (h : w.heap[B]? = some (.cells #[s, x, y] T (0, 0))) : (w.setCell ⟨B, 1, none⟩ z).heap[B]? = some (.cells #[s, z, y] T (0, 0)) := by
  rw [heap_setCell_same w B 1 _ _ _ h]; rfl
theorem grown_set (w : World) (B j : Nat) (z : Value) : w.grownBy (w.setCell ⟨B, j, none⟩ z) (some B) :=
  ⟨rfl, rfl, rfl, by simp, fun k _ hk => heap_setCell_other w ⟨B, j, none⟩ k z (fun e => hk (by simp [e]))⟩
theorem grown_trans {a b c : World} {row : Option Nat} (h : a.grownBy b row) (k : b.grownBy c row) : a.grownBy c row :=
  ⟨k.os.trans h.os, k.tape.trans h.tape, k.output.trans h.output, Nat.le_trans h.size k.size, fun i hi hne => (k.block i (Nat.lt_of_lt_of_le hi h.size) hne).trans (h.block i hi hne)⟩
theorem grown_drewN {a b : World} {row : Option Nat} (h : a.grownBy b row) (q : Nat) : a.grownBy (b.drewN q) row := ⟨h.os, h.tape, h.output, h.size, h.block⟩
theorem grown_refl (a : World) (row : Option Nat) : a.grownBy a row := ⟨rfl, rfl, rfl, Nat.le_refl _, fun _ _ _ => rfl⟩
theorem ByteRow.grown {w w' : World} {a : Option Addr} {len B : Nat} {g : Nat → Nat} (h : ByteRow w a len g) (hg : w.grownBy w' (some B)) (hl : 0 < len → ∀ b off, a = some ⟨b, off, none⟩ → b < B) : ByteRow w' a len g := by
  intro h0
  obtain ⟨b, off, h1, h2⟩ := h h0
  refine ⟨b, off, h1, fun i hi => hg.cell (h2 i hi) ?_⟩
  have := hl h0 b off h1
  intro e
  simp at e; omega
theorem Cur.to {B : Nat} {a : Option Addr} {len cap : Nat} {g : Nat → Nat} {w w' : World} (h : Cur B a len cap g w) (hg : w.grownBy w' (some B))
    (hb : ∃ (i : Nat) (h : Int), w'.heap[B]? = some (.cells #[.slice a len cap, .int .i64 i, .int .i64 h] 97 (0, 0)) ∧ i ≤ len) : Cur B a len cap g w' :=
  ⟨hb, h.row.grown hg h.low, h.low, h.small, h.fits⟩

theorem and_mask (z : Int) (m : Nat) (hm : m < 2147483648) : ∃ n : Nat, n ≤ m ∧ bits .and .i64 z (m : Int) = (n : Int) := by
  refine ⟨((BitVec.ofInt 64 z) &&& (BitVec.ofInt 64 (m : Int))).toNat, ?_, ?_⟩
  · rw [BitVec.toNat_and, BitVec.ofInt_natCast, BitVec.toNat_ofNat, Nat.mod_eq_of_lt (by omega)]
    exact Nat.and_le_right
  · have h : ((BitVec.ofInt 64 z) &&& (BitVec.ofInt 64 (m : Int))).toNat ≤ m := by
      rw [BitVec.toNat_and, BitVec.ofInt_natCast, BitVec.toNat_ofNat, Nat.mod_eq_of_lt (by omega)]
      exact Nat.and_le_right
    simp only [bits]
    rw [IntKind.wrap_i64]
    show (((((BitVec.ofInt 64 z) &&& (BitVec.ofInt 64 (m : Int))).toNat : Nat) : Int) + 9223372036854775808) % 18446744073709551616 - 9223372036854775808 = _
    omega
theorem and255 (z : Int) : ∃ n : Nat, n ≤ 255 ∧ bits .and .i64 z 255 = (n : Int) := and_mask z 255 (by decide)

def Drawn (B : Nat) (a : Option Addr) (len cap : Nat) (g : Nat → Nat) (lim : Nat) (w : World) (e : Ending) (w' : World) : Prop :=
  ∃ x : Nat, x < lim ∧ e = .returned (.int .i64 (x : Int)) ∧ Cur B a len cap g w' ∧ w.grownBy w' (some B)
theorem drawn_set {B : Nat} {a : Option Addr} {len cap : Nat} {g : Nat → Nat} {lim : Nat} {w w2 : World} {i : Nat} {h2 : Int} (q y : Nat) (hg : w.grownBy w2 (some B)) (hc : Cur B a len cap g w2)
    (hb : w2.heap[B]? = some (.cells #[.slice a len cap, .int .i64 i, .int .i64 h2] 97 (0, 0))) (hi : i < len) (hy : y < lim) :
    Drawn B a len cap g lim w (.returned (.int .i64 (y : Int))) ((w2.drewN q).setCell ⟨B, 1, none⟩ (.int .i64 ((i : Int) + 1))) := by
  have hG : w2.grownBy ((w2.drewN q).setCell ⟨B, 1, none⟩ (.int .i64 ((i : Int) + 1))) (some B) := grown_trans (grown_drewN (grown_refl w2 (some B)) q) (grown_set (w2.drewN q) B 1 (.int .i64 ((i : Int) + 1)))
  exact ⟨y, hy, rfl, hc.to hG ⟨i + 1, h2, set1 (w := w2.drewN q) (.int .i64 ((i : Int) + 1)) hb, hi⟩, grown_trans hg hG⟩
theorem drawn_plain {B : Nat} {a : Option Addr} {len cap : Nat} {g : Nat → Nat} {lim : Nat} {w w2 : World} {i : Nat} {h2 : Int} (q q2 y : Nat) (hg : w.grownBy w2 (some B)) (hc : Cur B a len cap g w2)
    (hb : w2.heap[B]? = some (.cells #[.slice a len cap, .int .i64 i, .int .i64 h2] 97 (0, 0))) (hi : i ≤ len) (hy : y < lim) :
    Drawn B a len cap g lim w (.returned (.int .i64 (y : Int))) ((w2.drewN q).drewN q2) := by
  have hG : w2.grownBy ((w2.drewN q).drewN q2) (some B) := grown_drewN (grown_drewN (grown_refl w2 (some B)) q) q2
  exact ⟨y, hy, rfl, hc.to hG ⟨i, h2, hb, hi⟩, grown_trans hg hG⟩
theorem l01Byte_any (B : Nat) (a : Option Addr) (len cap : Nat) (g : Nat → Nat) (w : World) (hc : Cur B a len cap g w) :
    Calls Tryz.prog 32 #[.pointer (some ⟨B, 0, none⟩)] w (Drawn B a len cap g 256 w) := by
  obtain ⟨i, h, hB, hi⟩ := hc.blk
  have c2 : w.cell? ⟨B, 2, none⟩ = some (.int .i64 h) := by rw [cell_of_row w B 2 _ _ (0, 0) hB]; rfl
  have f2 : w.frozen? ⟨B, 2, none⟩ = false := frozen_of_row w B 2 _ _ hB
  have hfit := hc.fits
  have HB := Lib.hid hB
  clear hB
  have HC := Lib.hid hc
  clear hc
  go_enter Tryz.func32, Tryz.ntmps32
  go_wp2
  generalize wrap64 (wrap64 (h * 6364136223846793005) + 1442695040888963407) = h2
  have HB2 := Lib.hid (set2 (.int .i64 h2) HB.out)
  have HG2 := Lib.hid (grown_set w B 2 (.int .i64 h2))
  have HC2 := Lib.hid (HC.out.to HG2.out ⟨i, h2, HB2.out, hi⟩)
  generalize w.setCell ⟨B, 2, none⟩ (.int .i64 h2) = w2 at *
  clear c2 f2 HB HC
  have c0 : w2.cell? ⟨B, 0, none⟩ = some (.slice a len cap) := by rw [cell_of_row w2 B 0 _ _ (0, 0) HB2.out]; rfl
  have c1 : w2.cell? ⟨B, 1, none⟩ = some (.int .i64 i) := by rw [cell_of_row w2 B 1 _ _ (0, 0) HB2.out]; rfl
  have c2 : w2.cell? ⟨B, 2, none⟩ = some (.int .i64 h2) := by rw [cell_of_row w2 B 2 _ _ (0, 0) HB2.out]; rfl
  have f1 : w2.frozen? ⟨B, 1, none⟩ = false := frozen_of_row w2 B 1 _ _ HB2.out
  by_cases hlt : i < len
  · obtain ⟨b, off, rfl, hcell⟩ := HC2.out.row (by omega)
    have hcb := hcell i hlt
    have hgi := HC2.out.small i
    have hne : ¬ (b = B) := by have := HC2.out.low (by omega) b off rfl; omega
    clear hcell
    obtain ⟨x, hx, hxe⟩ := and255 (bits BinOp.xor IntKind.i64 (h2 / 8589934592) (h2 / 35184372088832))
    go_quiet (fail)
    go_wp2
    clear hxe
    go_quiet (fail)
    go_wp2
    obtain ⟨y, hy, hye⟩ := and255 ((x : Int) + (g i : Int))
    have hwr : IntKind.i64.wrap ((x : Int) + (g i : Int)) = (x : Int) + (g i : Int) := by rw [IntKind.wrap_i64]; omega
    go_quiet (fail)
    go_wp2
    go_ret
    exact drawn_set _ y HG2.out HC2.out HB2.out hlt (by omega)
  · obtain ⟨x, hx, hxe⟩ := and255 (bits BinOp.xor IntKind.i64 (h2 / 8589934592) (h2 / 35184372088832))
    go_quiet (fail)
    go_wp2
    clear hxe
    go_quiet (fail)
    go_wp2
    go_ret
    exact drawn_plain _ _ x HG2.out HC2.out HB2.out hi (by omega)

theorem l01Below_small (B : Nat) (a : Option Addr) (len cap : Nat) (g : Nat → Nat) (n : Nat) (w : World) (hc : Cur B a len cap g w) (h0 : 0 < n) (hn : n ≤ 256) :
    Calls Tryz.prog 30 #[.pointer (some ⟨B, 0, none⟩), .int .i64 (n : Int)] w (Drawn B a len cap g n w) := by
  have g0 : decide ((n : Int) ≤ 0) = false := decide_eq_false (by omega)
  have g1 : decide ((n : Int) ≤ 256) = true := decide_eq_true (by omega)
  have HC := Lib.hid hc
  clear hc
  go_enter Tryz.func30, Tryz.ntmps30
  go_wp2_with fail
  refine (l01Byte_any B a len cap g _ HC.out).mono ?_
  rintro e w1 ⟨x, hx, rfl, c1, g1⟩
  have Hc1 := Lib.hid c1
  have Hg1 := Lib.hid g1
  clear c1 g1
  go_wp2
  go_ret
  exact ⟨x % n, Nat.mod_lt _ h0, by simp, Hc1.out, Hg1.out⟩
theorem l01Below_big (B : Nat) (a : Option Addr) (len cap : Nat) (g : Nat → Nat) (n : Nat) (w : World) (hc : Cur B a len cap g w) (hn : 256 < n) (hn2 : n ≤ 9223372036854775807) :
    Calls Tryz.prog 30 #[.pointer (some ⟨B, 0, none⟩), .int .i64 (n : Int)] w (Drawn B a len cap g n w) := by
  have g0 : decide ((n : Int) ≤ 0) = false := decide_eq_false (by omega)
  have g1 : decide ((n : Int) ≤ 256) = false := decide_eq_false (by omega)
  have HC := Lib.hid hc
  clear hc
  go_enter Tryz.func30, Tryz.ntmps30
  go_wp2_with fail
  refine (l01Byte_any B a len cap g _ HC.out).mono ?_
  rintro e w1 ⟨x1, hx1, rfl, c1, r1⟩
  have Hc1 := Lib.hid c1
  have Hr1 := Lib.hid r1
  clear c1 r1
  go_wp2_with fail
  refine (l01Byte_any B a len cap g _ Hc1.out).mono ?_
  rintro e w2 ⟨x2, hx2, rfl, c2, r2⟩
  have Hc2 := Lib.hid c2
  have Hr2 := Lib.hid (grown_trans Hr1.out r2)
  clear c2 r2
  go_wp2_with fail
  refine (l01Byte_any B a len cap g _ Hc2.out).mono ?_
  rintro e w3 ⟨x3, hx3, rfl, c3, r3⟩
  have Hc3 := Lib.hid c3
  have Hr3 := Lib.hid (grown_trans Hr2.out r3)
  clear c3 r3
  go_wp2_with fail
  refine (l01Byte_any B a len cap g _ Hc3.out).mono ?_
  rintro e w4 ⟨x4, hx4, rfl, c4, r4⟩
  have Hc4 := Lib.hid c4
  have Hr4 := Lib.hid (grown_trans Hr3.out r4)
  clear c4 r4
  go_wp2
  go_ret
  exact ⟨(x1 * 16777216 + x2 * 65536 + x3 * 256 + x4) % n, Nat.mod_lt _ (by omega), by simp, Hc4.out, Hr4.out⟩
theorem l01Below_any (B : Nat) (a : Option Addr) (len cap : Nat) (g : Nat → Nat) (n : Nat) (w : World) (hc : Cur B a len cap g w) (h0 : 0 < n) (hn2 : n ≤ 9223372036854775807) :
    Calls Tryz.prog 30 #[.pointer (some ⟨B, 0, none⟩), .int .i64 (n : Int)] w (Drawn B a len cap g n w) := by
  by_cases h : n ≤ 256
  · exact l01Below_small B a len cap g n w hc h0 h
  · exact l01Below_big B a len cap g n w hc (by omega) hn2

def CurMade (a : Option Addr) (len cap : Nat) (g : Nat → Nat) (w : World) (e : Ending) (w' : World) : Prop :=
  ∃ B, e = .returned (.pointer (some ⟨B, 0, none⟩)) ∧ w.heap.size ≤ B ∧ Cur B a len cap g w' ∧ Below w.heap.size w w'
theorem cur_made {a : Option Addr} {len cap : Nat} {g : Nat → Nat} {w : World} (h : Int) (hr : ByteRow w a len g) (hg : ∀ i, g i ≤ 255) (hl : len ≤ 1048576) :
    CurMade a len cap g w (.returned (.pointer (some ⟨w.heap.size, 0, none⟩))) (w.alloc (.cells #[.slice a len cap, .int .i64 0, .int .i64 h] 97)) := by
  have hb : Below w.heap.size w (w.alloc (.cells #[.slice a len cap, .int .i64 0, .int .i64 h] 97)) := (Below.refl _ _).alloc (Nat.le_refl _) _
  refine ⟨w.heap.size, rfl, Nat.le_refl _, ⟨⟨0, h, heap_alloc_new w _, Nat.zero_le _⟩, hr.below hb (Nat.le_refl _), fun h0 b off e => ?_, hg, by omega⟩, hb⟩
  obtain ⟨b', off', e', hc⟩ := hr h0
  rw [e'] at e
  simp only [Option.some.injEq, Addr.mk.injEq] at e
  rw [← e.1]
  exact World.block_lt_of_cell? w _ (hc 0 h0)
set_option maxRecDepth 100000 in
theorem l01New_any (a : Option Addr) (len cap : Nat) (g : Nat → Nat) (w : World) (hr : ByteRow w a len g) (hg : ∀ i, g i ≤ 255) (hl : len ≤ 1048576) :
    Calls Tryz.prog 28 #[.slice a len cap] w (CurMade a len cap g w) := by
  have HR := Lib.hid hr
  have HG := Lib.hid hg
  clear hr hg
  go_enter Tryz.func28, Tryz.ntmps28
  go_wp2
  go_loop [3, 4] (fun hv i => ∃ (j : Nat) (h : Int), j ≤ len ∧ i = .int .i64 j ∧ hv = .int .i64 h) (fun _ i => len - (RowKit.intOf i).toNat)
  case atStart => exact ⟨0, _, Nat.zero_le _, rfl, rfl⟩
  case round =>
    obtain ⟨j, h, hj, rfl, rfl⟩ := hrel
    by_cases hlt : j < len
    · by_cases h4 : j < 4000
      · obtain ⟨b, off, rfl, hcell⟩ := HR.out (by omega)
        have hc := hcell j hlt
        have hgj := HG.out j
        clear hcell
        go_wp2
        go_round
        case rel => exact ⟨j + 1, _, by omega, by go_num, rfl⟩
        case measure => simp [RowKit.intOf]; omega
      · go_wp2
        go_ret
        exact cur_made h HR.out HG.out hl
    · go_wp2
      go_ret
      exact cur_made h HR.out HG.out hl

theorem l27New_any (a : Option Addr) (len cap n : Nat) (g : Nat → Nat) (w : World) (hr : ByteRow w a len g) (hg : ∀ i, g i ≤ 255) (hl : len ≤ 1048576) (hn : n ≤ 1000000) :
    Calls Tryz.prog 31 #[.slice a len cap, .int .i64 (n : Int)] w (CurMade a len cap g w) := by
  have C := Lib.hid (l01New_any a len cap g w hr hg hl)
  clear hr hg hl
  go_enter Tryz.func31, Tryz.ntmps31
  go_wp2_with fail
  refine C.out.mono ?_
  rintro e w1 ⟨B, rfl, hB, hc, hb⟩
  clear C
  have HC := Lib.hid hc
  clear hc
  go_wp2_with fail
  go_loopw [6] (fun i wr => ∃ j : Nat, j ≤ n ∧ i = .int .i64 j ∧ Hid (Cur B a len cap g wr) ∧ Below w.heap.size w wr) (fun i _ => n - (RowKit.intOf i).toNat)
  case atStart => exact ⟨0, Nat.zero_le _, rfl, HC.out, hb⟩
  case round =>
    obtain ⟨j, hj, rfl, hcr, hbr⟩ := hrel
    clear HC hb
    by_cases hlt : j < n
    · go_wp2_with (go_at_call 32; refine (l01Byte_any B a len cap g _ hcr.out).mono ?_; rintro e w2 ⟨x, hx, rfl, c2, r2⟩; have hk := Lib.hid c2; clear c2)
      go_roundw
      case rel =>
        have hsz := hbr.size
        exact ⟨j + 1, by omega, by go_num, by assumption, hbr.grown (by assumption) hsz (fun k hk => by cases hk; exact hB)⟩
      case measure => simp [RowKit.intOf]; omega
    · go_wp2
      go_ret
      exact ⟨B, rfl, hB, hcr.out, hbr⟩
theorem makeNum_any (a : Option Addr) (len cap n : Nat) (g : Nat → Nat) (w : World) (hr : ByteRow w a len g) (hg : ∀ i, g i ≤ 255) (hl : len ≤ 1048576) (hn : n ≤ 1000000) :
    Calls Tryz.prog 8 #[.slice a len cap, .int .i64 (n : Int)] w fun e w' => (∃ x : Nat, x < 65536 ∧ e = .returned (.int .i64 (x : Int))) ∧ Below w.heap.size w w' := by
  have C := Lib.hid (l27New_any a len cap n g w hr hg hl hn)
  clear hr hg hl
  go_enter Tryz.func8, Tryz.ntmps8
  go_wp2_with fail
  refine C.out.mono ?_
  rintro e w1 ⟨B, rfl, hB, hc, hb⟩
  clear C
  have HC := Lib.hid hc
  clear hc
  go_wp2_with fail
  refine (l01Byte_any B a len cap g _ HC.out).mono ?_
  rintro e w2 ⟨x, hx, rfl, c2, r2⟩
  have hs1 := hb.size
  have hb2 := hb.grown r2 hs1 (fun k hk => by cases hk; exact hB)
  have HC2 := Lib.hid c2
  clear c2 r2 HC
  go_wp2_with fail
  refine (l01Byte_any B a len cap g _ HC2.out).mono ?_
  rintro e w3 ⟨y, hy, rfl, c3, r3⟩
  have hs2 := hb2.size
  have hb3 := hb2.grown r3 hs2 (fun k hk => by cases hk; exact hB)
  clear c3 r3 HC2
  go_wp2
  go_ret
  exact ⟨⟨x * 256 + y, by omega, by simp⟩, hb3⟩

def mtL : Nat → ByteArray
  | 0 => ⟨#[97]⟩
  | 1 => ⟨#[98, 99]⟩
  | 2 => ⟨#[32]⟩
  | 3 => ⟨#[44]⟩
  | _ => ⟨#[120, 49]⟩
theorem mtL_size (i : Nat) : (mtL i).size ≤ 2 := by
  match i with
  | 0 => decide
  | 1 => decide
  | 2 => decide
  | 3 => decide
  | n + 4 => show (2 : Nat) ≤ 2; omega
end Go.Proofs.YteciobkjfmddcaaGreat
set_option linter.unusedVariables false
namespace Go.Proofs.YteciobkjfmddcaaGreat
open Go.RowKit

theorem Cur.belowW {B base : Nat} {a : Option Addr} {len cap : Nat} {g : Nat → Nat} {w w' : World} (h : Cur B a len cap g w) (hb : Below base w w') (hB : B < base) : Cur B a len cap g w' := by
  obtain ⟨i, x, hh, hi⟩ := h.blk
  refine ⟨⟨i, x, (hb.block B hB).trans hh, hi⟩, fun h0 => ?_, h.low, h.small, h.fits⟩
  obtain ⟨b, off, h1, h2⟩ := h.row h0
  have := h.low h0 b off h1
  exact ⟨b, off, h1, fun i hi => (hb.cell (p := ⟨b, off + i, none⟩) (show b < base by omega)).trans (h2 i hi)⟩
theorem Cur.ltW {B : Nat} {a : Option Addr} {len cap : Nat} {g : Nat → Nat} {w : World} (h : Cur B a len cap g w) : B < w.heap.size := by
  obtain ⟨i, x, hh, hi⟩ := h.blk
  exact (Array.getElem?_eq_some_iff.1 hh).1
theorem l01Once_any (B : Nat) (a : Option Addr) (len cap : Nat) (g : Nat → Nat) (n : Nat) (w : World) (hc : Cur B a len cap g w) (h0 : 0 < n) (hn : n ≤ 256) :
    Calls Tryz.prog 102 #[.pointer (some ⟨B, 0, none⟩), .int .i64 (n : Int)] w fun e w' => (∃ r : Bool, e = .returned (.bool r)) ∧ Cur B a len cap g w' ∧ w.grownBy w' (some B) := by
  have C := Lib.hid (l01Below_small B a len cap g n w hc h0 hn)
  clear hc
  go_enter Tryz.func102, Tryz.ntmps102
  go_wp2_with fail
  refine C.out.mono ?_
  rintro e w1 ⟨x, hx, rfl, c1, g1⟩
  have C1 := Lib.hid c1
  have G1 := Lib.hid g1
  clear c1 g1
  go_wp2
  go_ret
  exact ⟨⟨_, rfl⟩, C1.out, G1.out⟩
def drawnL (L : List Int) : Prop := L.head? = some 1 ∧ (∀ i, 0 < i → i < L.length → 2 ≤ getI L i ∧ getI L i ≤ 7) ∧ ∀ i j, i < j → j < L.length → getI L i ≠ getI L j
theorem getI_last (L : List Int) (x : Int) : getI (L ++ [x]) L.length = x := by simp [getI]
theorem getI_left (L : List Int) (x : Int) (i : Nat) (h : i < L.length) : getI (L ++ [x]) i = getI L i := by
  simp only [getI, List.getD_eq_getElem?_getD]; rw [List.getElem?_append_left h]
theorem drawnL.push {L : List Int} {x : Int} (h : drawnL L) (hx : 2 ≤ x ∧ x ≤ 7) (hn : ¬ hasP (getI L) x L.length) : drawnL (L ++ [x]) := by
  obtain ⟨h1, h2, h3⟩ := h
  have hl : 0 < L.length := by cases L with
    | nil => simp at h1
    | cons _ _ => simp
  refine ⟨by rw [List.head?_append]; rw [h1]; rfl, fun i h0 hi => ?_, fun i j hij hj => ?_⟩
  · simp only [List.length_append, List.length_cons, List.length_nil] at hi
    by_cases e : i = L.length
    · rw [e, getI_last]; exact hx
    · rw [getI_left _ _ _ (by omega)]; exact h2 i h0 (by omega)
  · simp only [List.length_append, List.length_cons, List.length_nil] at hj
    rw [getI_left _ _ i (by omega)]
    by_cases e : j = L.length
    · rw [e, getI_last]; exact fun he => hn ⟨i, by omega, he⟩
    · rw [getI_left _ _ j (by omega)]; exact h3 i j hij (by omega)
def RulesGood (win : Int) (L : List Int) : Prop := (win = 2 ∨ win = 3) ∧ ∃ K, L = K ++ [8] ∧ drawnL K ∧ K.length ≤ 4
def DrawS (B : Nat) (a : Option Addr) (len cap : Nat) (g : Nat → Nat) (w0 : World) (D : Nat) (win : Int) (ag : Bool) (L : List Int) (w : World) : Prop :=
  ∃ v, Cur B a len cap g w ∧ w.heap[D]? = some (.cells #[.int .i64 win, .int .i64 1, .int .i64 0, v, .bool ag] 26 (0, 0)) ∧
    w.ownsRow (w0.heap.size + 1) 3 1 v L.length (L.map (Value.int .i64)) ∧ v.ownBlock ≠ some D ∧ (∃ aa cc, v = .slice aa L.length cc) ∧ w0.grownBy w (some B) ∧ B < w0.heap.size ∧ w0.heap.size + 1 ≤ D ∧
    w.heap[w0.heap.size]? = some (.cells #[.int .i64 0, .int .i64 0, .int .i64 0, .slice none 0 0, .bool false] 26 (0, 0))
def RulesDrawn (B : Nat) (a : Option Addr) (len cap : Nat) (g : Nat → Nat) (w : World) (e : Ending) (w' : World) : Prop :=
  ∃ v win ag L, e = .returned (.agg #[.int .i64 win, .int .i64 1, .int .i64 0, v, .bool ag]) ∧ RulesGood win L ∧ w'.ownsRow w.heap.size 3 1 v L.length (L.map (Value.int .i64)) ∧ Cur B a len cap g w' ∧ w.grownBy w' (some B)
theorem World.grownBy_set (w : World) (B j : Nat) (z : Value) : w.grownBy (w.setCell ⟨B, j, none⟩ z) (some B) := grown_set w B j z
theorem grown_to {w0 w w' : World} {B : Nat} (h : w0.grownBy w (some B)) (hb : Below w.heap.size w w') : w0.grownBy w' (some B) :=
  grown_trans h ⟨hb.os, hb.tape, hb.output, hb.size, fun k hk _ => hb.block k hk⟩
section
variable {B : Nat} {a : Option Addr} {len cap : Nat} {g : Nat → Nat} {w0 : World} {D : Nat} {win : Int} {ag : Bool} {L : List Int} {w w' : World}
theorem DrawS.cur (h : DrawS B a len cap g w0 D win ag L w) : Cur B a len cap g w := h.choose_spec.1
theorem DrawS.drawn (h : DrawS B a len cap g w0 D win ag L w) (hc : Cur B a len cap g w') (hg : w.grownBy w' (some B)) : DrawS B a len cap g w0 D win ag L w' := by
  obtain ⟨v, h1, h2, h3, h4, h5, h6, h7, h8, h9⟩ := h
  have hD : D < w.heap.size := (Array.getElem?_eq_some_iff.1 h2).1
  refine ⟨v, hc, (hg.block D hD (by intro e; simp at e; omega)).trans h2, h3.kept hg ?_, h4, h5, grown_trans h6 hg, h7, h8, (hg.block _ (by omega) (by intro e; simp at e; omega)).trans h9⟩
  cases hv : v.ownBlock with
  | none => exact .inl rfl
  | some k =>
    refine .inr fun e => ?_
    have := (h3.lt k hv).1
    simp at e; omega
theorem DrawS.open (h : DrawS B a len cap g w0 D win ag L w) (hL : L.length ≤ 9) :
    ∃ v, w.cell? ⟨D, 0, none⟩ = some (.int .i64 win) ∧ w.cell? ⟨D, 1, none⟩ = some (.int .i64 1) ∧ w.cell? ⟨D, 2, none⟩ = some (.int .i64 0) ∧ w.cell? ⟨D, 3, none⟩ = some v ∧ w.cell? ⟨D, 4, none⟩ = some (.bool ag) ∧
      w.frozen? ⟨D, 3, none⟩ = false ∧ IntRow w v L.length (getI L) ∧ w.ownsRow (w0.heap.size + 1) 3 1 v L.length (L.map (Value.int .i64)) ∧ (∃ aa cc, v = .slice aa L.length cc) ∧ w0.heap.size + 1 ≤ w.heap.size ∧ (w0.heap.size + 1 ≤ D ∧ v.ownBlock ≠ some D ∧ D < w.heap.size) ∧ (∀ w', w.grownBy w' v.ownBlock → w'.heap[D]? = some (.cells #[.int .i64 win, .int .i64 1, .int .i64 0, v, .bool ag] 26 (0, 0)) ∧ w'.heap[w0.heap.size]? = some (.cells #[.int .i64 0, .int .i64 0, .int .i64 0, .slice none 0 0, .bool false] 26 (0, 0))) ∧
      ∀ x v' w', w'.ownsRow (w0.heap.size + 1) 3 1 v' (L.length + 1) (L.map (Value.int .i64) ++ [.int .i64 x]) → w.grownBy w' v.ownBlock →
        (∃ gg cc, v' = .slice (some ⟨gg, 0, none⟩) (L.length + 1) cc ∧ (v.ownBlock = some gg ∨ w.heap.size ≤ gg)) → DrawS B a len cap g w0 D win ag (L ++ [x]) (w'.setCell ⟨D, 3, none⟩ v') := by
  obtain ⟨v, h1, h2, h3, h4, h5, h6, h7, h8, h9⟩ := h
  have hD : D < w.heap.size := (Array.getElem?_eq_some_iff.1 h2).1
  have c : ∀ j, w.cell? ⟨D, j, none⟩ = #[.int .i64 win, .int .i64 1, .int .i64 0, v, .bool ag][j]? := fun j => cell_of_row w D j _ _ (0, 0) h2
  have hk : ∀ w', w.grownBy w' v.ownBlock → w'.heap[D]? = w.heap[D]? := fun w' hg => hg.block D hD (fun e => h4 e.symm)
  have hkR : ∀ w', w.grownBy w' v.ownBlock → w'.heap[w0.heap.size]? = w.heap[w0.heap.size]? := fun w' hg => hg.block _ (by omega) (fun e => by have := (h3.lt _ e.symm).1; omega)
  refine ⟨v, c 0, c 1, c 2, c 3, c 4, frozen_of_row w D 3 _ _ h2, IntRow.of_list h3 (by omega), h3, h5, Nat.le_trans h8 (by omega), ⟨h8, h4, hD⟩, fun w' hg => ⟨(hk w' hg).trans h2, (hkR w' hg).trans h9⟩, fun x v' w' o' hg hv' => ?_⟩
  obtain ⟨gg, cc, rfl, hat⟩ := hv'
  have hgD : gg ≠ D := by
    rcases hat with h9 | h9
    · intro e; exact h4 (by rw [h9, e])
    · omega
  have hw9 : w'.heap[D]? = _ := (hk w' hg).trans h2
  have hB : w0.heap.size ≤ w.heap.size := h6.size
  have hbel : Below w0.heap.size w (w'.setCell ⟨D, 3, none⟩ (.slice (some ⟨gg, 0, none⟩) (L.length + 1) cc)) :=
    ((Below.refl _ _).grown hg hB (fun k hk => by have := (h3.lt k hk).1; omega)).setCell (by show w0.heap.size ≤ D; omega) _
  refine ⟨.slice (some ⟨gg, 0, none⟩) (L.length + 1) cc, h1.belowW hbel h7, ?_, ?_, ?_, ⟨some ⟨gg, 0, none⟩, cc, by simp⟩, ?_, h7, h8, ?_⟩
  · rw [heap_setCell_same w' D 3 _ _ _ hw9]; rfl
  · have := (o'.kept (World.grownBy_set w' D 3 (.slice (some ⟨gg, 0, none⟩) (L.length + 1) cc)) (.inr fun e => hgD (by simpa [Value.ownBlock] using e)))
    simpa using this
  · intro e; exact hgD (by simpa [Value.ownBlock] using e)
  · exact ⟨hbel.os.trans h6.os, hbel.tape.trans h6.tape, hbel.output.trans h6.output, Nat.le_trans hB hbel.size, fun k hk hne => (hbel.block k hk).trans (h6.block k hk hne)⟩
  · rw [Below.heap_setCell _ _ _ _ (by show w0.heap.size ≠ D; omega), hkR w' hg]; exact h9
theorem DrawS.grown (h : DrawS B a len cap g w0 D win ag L w) : w0.grownBy w (some B) ∧ B < w0.heap.size := by
  obtain ⟨v, h1, h2, h3, h4, h5, h6, h7, _⟩ := h
  exact ⟨h6, h7⟩
theorem drawn_end {w5 w9 : World} {V : Value} {x : Nat} (hx : x < 2) (hL : drawnL L) (hLl : L.length ≤ 4) (h : DrawS B a len cap g w0 D win ag (L ++ [8]) w5) (ho : w9.ownsRow (w0.heap.size + 1) 3 1 V (L.length + 1) (L.map (Value.int .i64) ++ [.int .i64 8]))
    (hb : Below w0.heap.size w5 w9) : RulesDrawn B a len cap g w0 (.returned (.agg #[.int .i64 (2 + (x : Int)), .int .i64 1, .int .i64 0, V, .bool ag])) w9 := by
  obtain ⟨h6, h7⟩ := h.grown
  refine ⟨V, _, ag, L ++ [8], rfl, ⟨by omega, L, rfl, hL, hLl⟩, ?_, h.cur.belowW hb h7, hb.os.trans h6.os, hb.tape.trans h6.tape, hb.output.trans h6.output, Nat.le_trans h6.size hb.size, fun k hk hne => (hb.block k hk).trans (h6.block k hk hne)⟩
  have := owns_mono ho (base' := w0.heap.size) (by omega)
  simpa using this
end
set_option maxRecDepth 100000 in
set_option maxHeartbeats 1000000 in
theorem l03Draw_any (B : Nat) (a : Option Addr) (len cap : Nat) (g : Nat → Nat) (w : World) (hc : Cur B a len cap g w) :
    Calls Tryz.prog 61 #[.pointer (some ⟨B, 0, none⟩)] w (RulesDrawn B a len cap g w) := by
  obtain ⟨i0, hi, hz0, hz1, hz2⟩ := info_parts Tryz.infoI
  have hlB := hc.ltW
  have L1 := Lib.hid (fun w1 hc (m : Nat) (h1 : 0 < m) (h2 : m ≤ 256) => l01Below_small B a len cap g m w1 hc h1 h2)
  have L2 := Lib.hid (fun w1 hc => l01Once_any B a len cap g 2 w1 hc (by omega) (by omega))
  have HC := Lib.hid hc
  clear hc
  go_enter Tryz.func61, Tryz.ntmps61
  go_wp2_with fail
  refine (L1.out _ (HC.out.belowW ((Below.refl _ w).alloc (Nat.le_refl _) _) hlB) 2 (by omega) (by omega)).mono ?_
  rintro e w1 ⟨x, hx, rfl, c1, g1⟩
  have G1 : Hid (w.grownBy w1 (some B)) := grown_trans (World.grownBy_alloc w _ _) g1
  have H1 : Hid (w1.heap[w.heap.size]? = some (.cells #[.int .i64 0, .int .i64 0, .int .i64 0, .slice none 0 0, .bool false] 26 (0, 0))) := by
    show _ = _
    rw [g1.block _ (by simp) (by intro e; simp at e; omega)]; exact heap_alloc_new w _
  have C1 := Lib.hid c1
  have F1 : Hid (w1.heap.size > w.heap.size) := by have := g1.size; simp at this; show w1.heap.size > w.heap.size; omega
  clear c1 g1
  go_wp2_with fail
  refine (L2.out _ C1.out).mono ?_
  rintro e w2 ⟨⟨ag, rfl⟩, c2, g2⟩
  have H0 : Hid (w2.heap[w.heap.size]? = some (.cells #[.int .i64 0, .int .i64 0, .int .i64 0, .slice none 0 0, .bool false] 26 (0, 0))) := by
    show _ = _
    rw [g2.block _ F1.out (by intro e; simp at e; omega)]; exact H1.out
  have G2 := Lib.hid (grown_trans G1.out g2)
  have C2 := Lib.hid c2
  have F2 : Hid (w2.heap.size > w.heap.size) := by have := g2.size; have := F1.out; show w2.heap.size > w.heap.size; omega
  clear c2 g2 C1 G1 F1
  go_wp2_with fail
  refine (L1.out _ (C2.out.belowW (((Below.refl _ w2).alloc (Nat.le_refl _) _).alloc (by simp) _) C2.out.ltW) 4 (by omega) (by omega)).mono ?_
  rintro e w3 ⟨m, hm, rfl, c3, g3⟩
  have S3 : Hid (DrawS B a len cap g w (w2.heap.size + 1) (2 + (x : Int)) ag [1] w3) := by
    have hlt2 := C2.out.ltW
    have hsz2 := F2.out
    have hsz2' : w.heap.size < w2.heap.size := hsz2
    have W2 : ∀ (o1 o2 : Obj), (((w2.alloc o1).alloc o2).heap[w2.heap.size]? = some o1 ∧ ((w2.alloc o1).alloc o2).heap[w2.heap.size + 1]? = some o2) := fun o1 o2 => by
      refine ⟨?_, ?_⟩
      · rw [Below.heap_alloc _ _ _ (by simp)]; exact heap_alloc_new w2 o1
      · have := heap_alloc_new (w2.alloc o1) o2; simpa using this
    have hs3 := g3.size
    simp only [World.size_alloc] at hs3
    refine ⟨.slice (some ⟨w2.heap.size, 0, none⟩) 1 1, c3, ?_, ⟨rfl, .inr ⟨w2.heap.size, 1, #[.int .i64 1], rfl, hsz2', ?_, Nat.le_refl _, by decide, rfl, rfl⟩⟩, by simp [Value.ownBlock], ⟨_, _, rfl⟩, ?_, hlB, by omega, ?_⟩
    · exact (g3.block _ (by simp) (by intro e; simp at e; omega)).trans (W2 _ _).2
    · exact (g3.block _ (by simp; omega) (by intro e; simp at e; omega)).trans (W2 _ _).1
    · exact grown_trans (grown_to G2.out (((Below.refl _ w2).alloc (Nat.le_refl _) _).alloc (by simp) _)) g3
    · rw [g3.block _ (by simp; omega) (by intro e; simp at e; omega), Below.heap_alloc _ _ _ (by simp; omega), Below.heap_alloc _ _ _ (by omega)]
      exact H0.out
  generalize w2.heap.size + 1 = D at *
  clear c3 g3 G2 C2 F2 L2 HC H0 H1
  go_wp2
  go_loopw [4] (fun i wr => ∃ (j : Nat) (L : List Int), i = .int .i64 j ∧ L.length + j ≤ 4 ∧ Hid (drawnL L) ∧ Hid (DrawS B a len cap g w D (2 + (x : Int)) ag L wr)) (fun i _ => (RowKit.intOf i).toNat)
  case atStart => exact ⟨m, [1], rfl, by simp; omega, ⟨rfl, fun i h0 hi => absurd hi (by simp; omega), fun i j hij hj => absurd hj (by simp; omega)⟩, S3.out⟩
  case round =>
    clear S3
    obtain ⟨j, L, rfl, hj, hL, hS⟩ := hrel
    by_cases hlt : 0 < j
    · have C1 := Lib.hid hS.out.cur
      go_wp2_with fail
      refine (L1.out _ C1.out 6 (by omega) (by omega)).mono ?_
      rintro e w4 ⟨y, hy, rfl, c4, g4⟩
      have S4 := Lib.hid (hS.out.drawn c4 g4)
      obtain ⟨v, k0, k1, k2, k3, k4, f3, r4, o4, ⟨aa, cc, hv⟩, hsz, ⟨hRD, hvD, hDlt⟩, hf4, hpush⟩ := S4.out.open (by omega)
      have R4 := Lib.hid r4
      have O4 := Lib.hid o4
      have P4 := Lib.hid (hpush (2 + (y : Int)))
      have F4 := Lib.hid hf4
      subst hv
      clear c4 g4 hS C1 r4 o4 hpush hf4
      by_cases hh : hasP (getI L) (2 + (y : Int)) L.length
      · go_wp2_with fail
        refine (l02Has_yes _ L.length (getI L) _ _ R4.out hh).mono ?_
        rintro e w' ⟨rfl, rfl⟩
        go_wp2
        go_roundw
        case rel => exact ⟨j - 1, L, by go_num, by omega, hL, S4⟩
        case measure => simp [RowKit.intOf]; omega
      · go_wp2_with fail
        refine (l02Has_no _ L.length (getI L) _ _ R4.out hh).mono ?_
        rintro e w' ⟨rfl, rfl⟩
        have hL2 := Lib.hid (hL.out.push (x := 2 + (y : Int)) (by omega) hh)
        have HN := Lib.hid hh
        clear hh
        go_wp2_with (at_builtin; refine wpList_pushL rfl (.tmp 28) (.tmp 30) 24 rfl (w.heap.size + 1) 3 Tryz.underlying24 hi hz0 hz1 hz2 rfl (by decide) [.int .i64 (2 + (y : Int))] rfl (by intro u hu; simp at hu; subst hu; rfl) rfl rfl O4.out (by unfold maxLen; omega) (by omega) hsz ?_; intro gg cc5 w5 o5 g5 at5 lt5; have S5 := Lib.hid (P4.out _ w5 o5 g5 ⟨_, _, rfl, at5⟩); have f5 : w5.frozen? ⟨D, 3, none⟩ = false := frozen_of_row w5 D 3 _ _ (F4.out w5 g5).1; have e5 := cell_of_row w5 D 3 _ _ (0, 0) (F4.out w5 g5).1)
        go_roundw
        case rel => exact ⟨j - 1, L ++ [2 + (y : Int)], by go_num, by simp; omega, hL2, S5⟩
        case measure => simp [RowKit.intOf]; omega
    · obtain rfl : j = 0 := by omega
      obtain ⟨v, k0, k1, k2, k3, k4, f3, r4, o4, ⟨aa, cc, hv⟩, hsz, ⟨hRD, hvD, hDlt⟩, hf4, hpush⟩ := hS.out.open (by omega)
      have O4 := Lib.hid o4
      have P4 := Lib.hid (hpush 8)
      have F4 := Lib.hid hf4
      subst hv
      have HVD := Lib.hid hvD
      have n1 : ¬ (w.heap.size = D) := by omega
      have n2 : ¬ (D = w.heap.size) := by omega
      clear hS r4 o4 hpush hf4 hvD
      go_wp2_with (at_builtin; refine wpList_pushL rfl (.tmp 34) (.tmp 35) 24 rfl (w.heap.size + 1) 3 Tryz.underlying24 hi hz0 hz1 hz2 rfl (by decide) [.int .i64 8] rfl (by intro u hu; simp at hu; subst hu; rfl) rfl rfl O4.out (by unfold maxLen; omega) (by omega) hsz ?_; intro gg cc5 w5 o5 g5 at5 lt5; have S5 := Lib.hid (P4.out _ w5 o5 g5 ⟨_, _, rfl, at5⟩); have W5 := F4.out w5 g5; have f5 : w5.frozen? ⟨D, 3, none⟩ = false := frozen_of_row w5 D 3 _ _ W5.1; have d5 := fun j => cell_of_row w5 D j _ _ (0, 0) W5.1; have q5 := fun j => cell_of_row w5 w.heap.size j _ _ (0, 0) W5.2; have r5 := fun j => frozen_of_row w5 w.heap.size j _ _ W5.2; have hlt5 := (Array.getElem?_eq_some_iff.1 W5.2).1; have hlt6 := (Array.getElem?_eq_some_iff.1 W5.1).1; have e0 : w5.cell? ⟨D, 0, none⟩ = some (.int .i64 (2 + (x : Int))) := d5 0; have e1 : w5.cell? ⟨D, 1, none⟩ = some (.int .i64 1) := d5 1; have e2 : w5.cell? ⟨D, 2, none⟩ = some (.int .i64 0) := d5 2; have e3 : w5.cell? ⟨D, 3, none⟩ = some (.slice aa L.length cc) := d5 3; have e4 : w5.cell? ⟨D, 4, none⟩ = some (.bool ag) := d5 4; have q0 : w5.cell? ⟨w.heap.size, 0, none⟩ = some (.int .i64 0) := q5 0; have r0 := r5 0; have q1 : w5.cell? ⟨w.heap.size, 1, none⟩ = some (.int .i64 0) := q5 1; have r1 := r5 1; have q2 : w5.cell? ⟨w.heap.size, 2, none⟩ = some (.int .i64 0) := q5 2; have r2 := r5 2; have q3 : w5.cell? ⟨w.heap.size, 3, none⟩ = some (.slice none 0 0) := q5 3; have r3 := r5 3; have q4 : w5.cell? ⟨w.heap.size, 4, none⟩ = some (.bool false) := q5 4; have r4 := r5 4; clear d5 q5 r5 W5)
      have hgD : gg ≠ D := by
        rcases at5 with h9 | h9
        · intro e; exact HVD.out (Eq.trans h9 (by rw [e]))
        · omega
      have hgR : w.heap.size + 1 ≤ gg := (o5.lt gg rfl).1
      have O5 := Lib.hid o5
      clear o5 at5 g5
      go_wp2
      refine bodyPost_ret (v := .agg #[.int .i64 (2 + (x : Int)), .int .i64 1, .int .i64 0, .slice (some ⟨gg, 0, none⟩) (L.length + 1) cc5, .bool ag]) (by simp [results, Tryz.results61, go_sem, q0, q1, q2, q3, q4]) rfl ?_
      refine drawn_end hx hL.out (by omega) S5.out ?_ ?_
      · iterate 5 (refine (World.ownsRow.kept ?_ (World.grownBy_set _ w.heap.size _ _) (.inr (by intro e; simp [Value.ownBlock] at e; omega))))
        exact (O5.out.kept (World.grownBy_set _ D 3 _) (.inr (by intro e; simp [Value.ownBlock] at e; omega)))
      · iterate 5 (refine Below.setCell ?_ (by simp) _)
        exact Below.refl _ _
def RulesIs (w : World) (e : Ending) (w' : World) : Prop :=
  ∃ v win ag L, e = .returned (.agg #[.int .i64 win, .int .i64 1, .int .i64 0, v, .bool ag]) ∧ RulesGood win L ∧ w'.ownsRow w.heap.size 3 1 v L.length (L.map (Value.int .i64)) ∧ Below w.heap.size w w'
end Go.Proofs.YteciobkjfmddcaaGreat
set_option linter.unusedVariables false
namespace Go.Proofs.YteciobkjfmddcaaGreat
open Go.RowKit

theorem l01Pick_any (B : Nat) (a : Option Addr) (len cap : Nat) (g : Nat → Nat) (v : Value) (n : Nat) (gl : Nat → Int) (w : World) (hc : Cur B a len cap g w) (h0 : 0 < n) (hn : n ≤ 256) (hv : IntRow w v n gl) (hB : v.ownBlock ≠ some B) :
    Calls Tryz.prog 63 #[.pointer (some ⟨B, 0, none⟩), v] w fun e w' => (∃ x : Nat, x < n ∧ e = .returned (.int .i64 (gl x))) ∧ Cur B a len cap g w' ∧ w.grownBy w' (some B) := by
  rcases hv with ⟨_, _, _, h⟩ | ⟨b, off, c, rfl, _, hn2, hcell, hcap⟩
  · omega
  have C := Lib.hid (l01Below_small B a len cap g n w hc h0 hn)
  have HC := Lib.hid hcell
  have hbB : some b ≠ some B := hB
  clear hc hcell hB
  go_enter Tryz.func63, Tryz.ntmps63
  go_wp2_with fail
  refine C.out.mono ?_
  rintro e w1 ⟨x, hx, rfl, c1, g1⟩
  have c0 := g1.cell (HC.out x hx) hbB
  have C1 := Lib.hid c1
  have G1 := Lib.hid g1
  clear c1 g1
  generalize hz : gl x = z at *
  have Hz := Lib.hid hz
  clear hz
  go_wp2
  go_ret
  exact ⟨⟨x, hx, by rw [Hz.out]; rfl⟩, C1.out, G1.out⟩

def gcells (L : List GameD) : List Value := L.flatMap GameD.cells
theorem gcells_push (L : List GameD) (x : GameD) : gcells (L ++ [x]) = gcells L ++ x.cells := by simp [gcells]
def SeaS (B : Nat) (a : Option Addr) (len cap : Nat) (g : Nat → Nat) (w0 : World) (out : Value) (L : List GameD) (w : World) : Prop :=
  Cur B a len cap g w ∧ w.ownsRow w0.heap.size 127 5 out L.length (gcells L) ∧ w0.grownBy w (some B) ∧ B < w0.heap.size
def SeaB (B : Nat) (a : Option Addr) (len cap : Nat) (g : Nat → Nat) (w0 : World) (out : Value) (L : List GameD) (D : Nat) (cs : Array Value) (w : World) : Prop :=
  SeaS B a len cap g w0 out L w ∧ w.heap[D]? = some (.cells cs 127 (0, 0)) ∧ w0.heap.size ≤ D ∧ out.ownBlock ≠ some D
section
variable {B : Nat} {a : Option Addr} {len cap : Nat} {g : Nat → Nat} {w0 : World} {out : Value} {L : List GameD} {D : Nat} {cs : Array Value} {w w' : World}
theorem SeaS.below (h : SeaS B a len cap g w0 out L w) (hb : Below w.heap.size w w') : SeaS B a len cap g w0 out L w' :=
  ⟨h.1.belowW hb (Nat.lt_of_lt_of_le h.2.2.2 h.2.2.1.size), owns_below h.2.1 hb (Nat.le_refl _), grown_to h.2.2.1 hb, h.2.2.2⟩
theorem SeaS.drawn (h : SeaS B a len cap g w0 out L w) (hc : Cur B a len cap g w') (hg : w.grownBy w' (some B)) : SeaS B a len cap g w0 out L w' := by
  refine ⟨hc, h.2.1.kept hg ?_, grown_trans h.2.2.1 hg, h.2.2.2⟩
  cases hv : out.ownBlock with
  | none => exact .inl rfl
  | some k => exact .inr fun e => by have := (h.2.1.lt k hv).1; have := h.2.2.2; simp at e; omega
theorem SeaB.drawn (h : SeaB B a len cap g w0 out L D cs w) (hc : Cur B a len cap g w') (hg : w.grownBy w' (some B)) : SeaB B a len cap g w0 out L D cs w' := by
  have hD : D < w.heap.size := (Array.getElem?_eq_some_iff.1 h.2.1).1
  exact ⟨h.1.drawn hc hg, (hg.block D hD (by intro e; have := h.2.2.1; have := h.1.2.2.2; simp at e; omega)).trans h.2.1, h.2.2⟩
theorem SeaB.below (h : SeaB B a len cap g w0 out L D cs w) (hb : Below w.heap.size w w') : SeaB B a len cap g w0 out L D cs w' := by
  have hD : D < w.heap.size := (Array.getElem?_eq_some_iff.1 h.2.1).1
  exact ⟨h.1.below hb, (hb.block D hD).trans h.2.1, h.2.2⟩
theorem SeaB.start (h : SeaS B a len cap g w0 out L w) (cs : Array Value) : SeaB B a len cap g w0 out L w.heap.size cs (w.alloc (.cells cs 127)) := by
  refine ⟨h.below ((Below.refl _ _).alloc (Nat.le_refl _) _), heap_alloc_new w _, h.2.2.1.size, fun e => ?_⟩
  have := (h.2.1.lt _ e).2
  omega
theorem SeaB.set (h : SeaB B a len cap g w0 out L D cs w) (j : Nat) (u : Value) : SeaB B a len cap g w0 out L D (cs.setIfInBounds j u) (w.setCell ⟨D, j, none⟩ u) := by
  obtain ⟨⟨h1, h2, h3, h4⟩, h5, h6, h7⟩ := h
  have hs := h3.size
  refine ⟨⟨h1.belowW (base := w0.heap.size) ((Below.refl _ _).setCell h6 _) h4, h2.kept (grown_set w D j u) (.inr h7), ⟨h3.os, h3.tape, h3.output, by simpa [World.setCell] using hs, fun k hk hne => ?_⟩, h4⟩, ?_, h6, h7⟩
  · rw [Below.heap_setCell _ _ _ _ (by show k ≠ D; omega)]; exact h3.block k hk hne
  · rw [heap_setCell_same w D j _ _ _ h5]
theorem SeaB.cur (h : SeaB B a len cap g w0 out L D cs w) : Cur B a len cap g w := h.1.1
theorem SeaB.cell (h : SeaB B a len cap g w0 out L D cs w) (j : Nat) : w.cell? ⟨D, j, none⟩ = cs[j]? := cell_of_row w D j _ _ (0, 0) h.2.1
theorem SeaB.free (h : SeaB B a len cap g w0 out L D cs w) (j : Nat) : w.frozen? ⟨D, j, none⟩ = false := frozen_of_row w D j _ _ h.2.1
theorem SeaB.push {x : GameD} {v : Value} (h : SeaB B a len cap g w0 out L D x.cells.toArray w) (ho : w'.ownsRow w0.heap.size 127 5 v (L.length + 1) (gcells L ++ x.cells)) (hg : w.grownBy w' out.ownBlock) :
    SeaS B a len cap g w0 v (L ++ [x]) w' := by
  obtain ⟨⟨h1, h2, h3, h4⟩, _⟩ := h
  have hs := h3.size
  have hb : Below w0.heap.size w w' := (Below.refl _ _).grown hg hs (fun k hk => (h2.lt k hk).1)
  refine ⟨h1.belowW hb h4, ?_, ⟨hb.os.trans h3.os, hb.tape.trans h3.tape, hb.output.trans h3.output, Nat.le_trans hs hb.size, fun k hk hne => (hb.block k hk).trans (h3.block k hk hne)⟩, h4⟩
  rw [gcells_push]
  simpa using ho
end
def SeaL (lo hi : Int) (L : List GameD) (m : Nat) : Prop :=
  (∀ t ∈ L, ((t.home < t.away ∧ 0 ≤ t.home ∧ (t.away < hi ∨ (t.away = hi ∧ t.home < lo))) ∨ (t.away < t.home ∧ 0 ≤ t.away ∧ (t.home < hi ∨ (t.home = hi ∧ t.away < lo)))) ∧
    (0 ≤ t.st ∧ t.st ≤ 4) ∧ ((t.st = 1 ∧ (0 ≤ t.hg ∧ t.hg ≤ 3) ∧ (0 ≤ t.ag ∧ t.ag ≤ 3)) ∨ (t.st ≠ 1 ∧ t.hg = 0 ∧ t.ag = 0))) ∧
  L.Pairwise (fun s t => ¬ (s.home = t.home ∧ s.away = t.away) ∧ ¬ (s.home = t.away ∧ s.away = t.home)) ∧ (L.filter fun t => t.st == 0).length = m ∧ (0 < lo ∨ 1 < hi → L ≠ [])
theorem SeaL.next {lo hi : Int} {L : List GameD} {m : Nat} {x : GameD} (h : SeaL lo hi L m) (h0 : 0 ≤ lo) (h1 : lo < hi) (hx : (x.home = lo ∧ x.away = hi) ∨ (x.home = hi ∧ x.away = lo)) (hst : 0 ≤ x.st ∧ x.st ≤ 4)
    (hg : (x.st = 1 ∧ (0 ≤ x.hg ∧ x.hg ≤ 3) ∧ (0 ≤ x.ag ∧ x.ag ≤ 3)) ∨ (x.st ≠ 1 ∧ x.hg = 0 ∧ x.ag = 0)) : SeaL (lo + 1) hi (L ++ [x]) (m + if x.st = 0 then 1 else 0) := by
  obtain ⟨ha, hp, hc, _⟩ := h
  refine ⟨fun t ht => ?_, ?_, ?_, fun _ => by simp⟩
  · rw [List.mem_append, List.mem_singleton] at ht
    rcases ht with ht | rfl
    · obtain ⟨k1, k2, k3⟩ := ha t ht
      exact ⟨by omega, k2, k3⟩
    · exact ⟨by omega, hst, hg⟩
  · rw [List.pairwise_append]
    refine ⟨hp, List.pairwise_singleton _ _, fun s hs t ht => ?_⟩
    rw [List.mem_singleton] at ht
    subst ht
    have := (ha s hs).1
    omega
  · rw [List.filter_append, List.length_append, hc]
    congr 1
    by_cases e : x.st = 0 <;> simp [e]
theorem SeaL.row {hi : Int} {L : List GameD} {m : Nat} (h : SeaL hi hi L m) : SeaL 0 (hi + 1) L m := by
  obtain ⟨ha, hp, hc, hq⟩ := h
  exact ⟨fun t ht => by obtain ⟨k1, k2, k3⟩ := ha t ht; exact ⟨by omega, k2, k3⟩, hp, hc, fun h => hq (.inl (by omega))⟩
def SeaMade (B : Nat) (a : Option Addr) (len cap : Nat) (g : Nat → Nat) (n opn : Nat) (w : World) (e : Ending) (w' : World) : Prop :=
  ∃ v L m, e = .returned v ∧ SeaL 0 n L m ∧ m ≤ opn ∧ L.length ≤ 8 * n ∧ w'.ownsRow w.heap.size 127 5 v L.length (gcells L) ∧ Cur B a len cap g w' ∧ w.grownBy w' (some B)
def pickG (i : Nat) : Int := match i with | 6 => 2 | 7 => 3 | 8 => 4 | _ => 1
theorem pickG_in (i : Nat) (h : i < 9) : 1 ≤ pickG i ∧ pickG i ≤ 4 := by
  have : i = 0 ∨ i = 1 ∨ i = 2 ∨ i = 3 ∨ i = 4 ∨ i = 5 ∨ i = 6 ∨ i = 7 ∨ i = 8 := by omega
  rcases this with rfl | rfl | rfl | rfl | rfl | rfl | rfl | rfl | rfl <;> decide
end Go.Proofs.YteciobkjfmddcaaGreat
set_option linter.unusedVariables false
namespace Go.Proofs.YteciobkjfmddcaaGreat
open Go.RowKit

theorem pick_row (w : World) : IntRow (w.alloc (.cells #[.int .i64 1, .int .i64 1, .int .i64 1, .int .i64 1, .int .i64 1, .int .i64 1, .int .i64 2, .int .i64 3, .int .i64 4] 3)) (.slice (some ⟨w.heap.size, 0, none⟩) 9 9) 9 pickG := by
  refine .inr ⟨w.heap.size, 0, 9, rfl, by omega, by omega, fun i hi => ?_, Nat.le_refl _⟩
  rw [Nat.zero_add, cell_of_row _ w.heap.size i _ _ (0, 0) (heap_alloc_new w _)]
  have : i = 0 ∨ i = 1 ∨ i = 2 ∨ i = 3 ∨ i = 4 ∨ i = 5 ∨ i = 6 ∨ i = 7 ∨ i = 8 := by omega
  rcases this with rfl | rfl | rfl | rfl | rfl | rfl | rfl | rfl | rfl <;> rfl
set_option maxRecDepth 100000 in
set_option maxHeartbeats 8000000 in
theorem l04Season_any (B : Nat) (a : Option Addr) (len cap : Nat) (g : Nat → Nat) (n opn : Nat) (w : World) (hc : Cur B a len cap g w) (hn : n ≤ 8) (h1 : 1 ≤ n) (ho : opn ≤ 1000) :
    Calls Tryz.prog 62 #[.pointer (some ⟨B, 0, none⟩), .int .i64 (n : Int), .int .i64 (opn : Int)] w (SeaMade B a len cap g n opn w) := by
  obtain ⟨i0, hi, hz0, hz1, hz2⟩ := info_parts Tryz.infoGame
  have hlB := hc.ltW
  have LO := Lib.hid (fun (m : Nat) w1 hc (h1 : 0 < m) (h2 : m ≤ 256) => l01Once_any B a len cap g m w1 hc h1 h2)
  have LB := Lib.hid (fun w1 hc => l01Below_small B a len cap g 4 w1 hc (by omega) (by omega))
  have LP := Lib.hid (fun v w1 hc hv hB => l01Pick_any B a len cap g v 9 pickG w1 hc (by omega) (by omega) hv hB)
  have S0 : SeaS B a len cap g w (.slice (some ⟨w.heap.size, 0, none⟩) 0 0) [] (w.alloc (.cells #[] 127)) :=
    ⟨hc.belowW ((Below.refl _ _).alloc (Nat.le_refl _) _) hlB, World.ownsRow_lit w #[] 0 (Nat.le_refl _) (by decide) rfl, World.grownBy_alloc _ _ _, hlB⟩
  have HS0 := Lib.hid S0
  clear hc S0
  go_enter Tryz.func62, Tryz.ntmps62
  go_wp2
  go_loopw [2, 7, 8] (fun ov out bv wr => ∃ (b o m : Nat) (L : List GameD), 1 ≤ b ∧ b ≤ n ∧ bv = .int .i64 b ∧ ov = .int .i64 o ∧ o + m = opn ∧ L.length ≤ 8 * b ∧ Hid (SeaL 0 b L m) ∧ Hid (SeaS B a len cap g w out L wr)) (fun _ _ bv _ => n - (RowKit.intOf bv).toNat)
  case atStart => exact ⟨1, opn, 0, [], by omega, by omega, rfl, rfl, by omega, by simp, ⟨fun t ht => by simp at ht, List.Pairwise.nil, rfl, fun h => absurd h (by omega)⟩, HS0.out⟩
  case round =>
    clear HS0
    obtain ⟨b, o, m, L, hb1, hbn, rfl, rfl, hom, hLl, hL, hS⟩ := hrel
    by_cases hlt : b < n
    · obtain ⟨wo, rfl⟩ : ∃ wo : World, wo = wr := ⟨_, rfl⟩
      go_wp2
      go_loopw [2, 7, 9] (fun ov out av wr => ∃ (x o m : Nat) (L : List GameD), x ≤ b ∧ av = .int .i64 x ∧ ov = .int .i64 o ∧ o + m = opn ∧ L.length ≤ 8 * b + x ∧ Hid (SeaL x b L m) ∧ Hid (SeaS B a len cap g w out L wr)) (fun _ _ av _ => b - (RowKit.intOf av).toNat)
      case atStart => exact ⟨0, o, m, L, by omega, rfl, rfl, hom, by omega, hL, hS⟩
      case round =>
        clear hL hS hLl hom
        obtain ⟨x, o, m, L, hxb, rfl, rfl, hom, hLl, hL, hS⟩ := hrel
        by_cases hxlt : x < b
        · have hB0 := Lib.hid (SeaB.start hS.out #[.int .i64 x, .int .i64 b, .int .i64 0, .int .i64 0, .int .i64 0])
          have hSz := hS.out.2.2.1.size
          have hL28 : L.length ≤ 72 := by omega
          go_wp2_with fail
          refine (LO.out 2 _ hB0.out.cur (by omega) (by omega)).mono ?_
          rintro e w2 ⟨⟨r, rfl⟩, c2, g2⟩
          have hB2 := Lib.hid (hB0.out.drawn c2 g2)
          have hDl : wr.heap.size < w2.heap.size := by have := (Array.getElem?_eq_some_iff.1 hB2.out.2.1).1; exact this
          generalize hD : wr.heap.size = D at *
          clear hD c2 g2 hB0 hS hSz
          go_upto_if 26 with fail
          go_cut [] (fun wx => ∃ hm aw : Int, Hid (SeaB B a len cap g w u7 L D #[.int .i64 hm, .int .i64 aw, .int .i64 0, .int .i64 0, .int .i64 0] wx) ∧ Hid ((hm = x ∧ aw = b) ∨ (hm = b ∧ aw = x)))
          case first =>
            cases r with
            | false =>
              go_wp2_with fail
              go_meet
              case rel => exact ⟨x, b, hB2, .inl ⟨rfl, rfl⟩⟩
            | true =>
              have k0 := hB2.out.cell 0
              have k1 := hB2.out.cell 1
              have k2 := hB2.out.cell 2
              have k3 := hB2.out.cell 3
              have k4 := hB2.out.cell 4
              have f0 := hB2.out.free 0
              have f1 := hB2.out.free 1
              have f2 := hB2.out.free 2
              have f3 := hB2.out.free 3
              have f4 := hB2.out.free 4
              have hB3 := Lib.hid (((((hB2.out.set 0 (.int .i64 b)).set 1 (.int .i64 x)).set 2 (.int .i64 0)).set 3 (.int .i64 0)).set 4 (.int .i64 0))
              go_wp2_with fail
              go_meet
              case rel => exact ⟨b, x, hB3, .inr ⟨rfl, rfl⟩⟩
          case rest =>
            obtain ⟨hm, aw, hB3, hpair⟩ := hcut
            clear hB2
            go_upto_region 11 with fail
            go_cut [35] (fun s35 wx => ∃ q : Bool, s35 = .bool q ∧ (q = true → 0 < o) ∧ Hid (SeaB B a len cap g w u7 L D #[.int .i64 hm, .int .i64 aw, .int .i64 0, .int .i64 0, .int .i64 0] wx))
            case first =>
              by_cases ho0 : 0 < o
              · have g9 : decide (0 < (o : Int)) = true := decide_eq_true (by omega)
                have g9' : decide (0 < o) = true := decide_eq_true ho0
                go_wp2_with fail
                refine (LO.out 3 _ hB3.out.cur (by omega) (by omega)).mono ?_
                rintro e w4 ⟨⟨q, rfl⟩, c4, g4⟩
                have hB4 := Lib.hid (hB3.out.drawn c4 g4)
                clear c4 g4
                go_wp2_with fail
                go_meet
                case rel => exact ⟨q, rfl, fun _ => ho0, hB4⟩
              · have g9 : decide (0 < (o : Int)) = false := decide_eq_false (by omega)
                have g9' : decide (0 < o) = false := decide_eq_false ho0
                go_wp2_with fail
                go_meet
                case rel => exact ⟨false, rfl, (fun h => by cases h), hB3⟩
            case rest =>
              obtain ⟨q, rfl, hq, hB4⟩ := hcut
              clear hB3
              go_upto_if 35 with fail
              go_cut [2] (fun s2 wx => ∃ (o2 : Nat) (st : Int), s2 = .int .i64 o2 ∧ (0 ≤ st ∧ st ≤ 4) ∧ Hid (o2 + (m + if st = 0 then 1 else 0) = opn) ∧ Hid (SeaB B a len cap g w u7 L D #[.int .i64 hm, .int .i64 aw, .int .i64 0, .int .i64 0, .int .i64 st] wx))
              case first =>
                cases q with
                | true =>
                  have ho0 := hq rfl
                  go_wp2_with fail
                  go_meet
                  case rel => exact ⟨o - 1, 0, by go_num, by omega, by show _ = _; simp; omega, hB4⟩
                | false =>
                  have hbl : ∀ (w1 : World), Below w1.heap.size w1 (w1.alloc (.cells #[.int .i64 1, .int .i64 1, .int .i64 1, .int .i64 1, .int .i64 1, .int .i64 1, .int .i64 2, .int .i64 3, .int .i64 4] 3)) := fun w1 => (Below.refl _ _).alloc (Nat.le_refl _) _
                  have hlB4 := hB4.out.cur.ltW
                  go_wp2_with fail
                  refine (LP.out _ _ (hB4.out.cur.belowW (hbl _) hlB4) (pick_row _) (by simp [Value.ownBlock]; omega)).mono ?_
                  rintro e w5 ⟨⟨i, hi9, rfl⟩, c5, g5⟩
                  have hB5 := Lib.hid ((hB4.out.below (hbl _)).drawn c5 g5)
                  obtain ⟨p1, p4⟩ := pickG_in i hi9
                  generalize pickG i = st at *
                  have k4 := hB5.out.cell 4
                  have f4 := hB5.out.free 4
                  have hB6 := Lib.hid (hB5.out.set 4 (.int .i64 st))
                  have HOM := Lib.hid hom
                  have hst0 : ¬ st = 0 := by omega
                  clear c5 g5 hbl
                  go_wp2_with fail
                  go_meet
                  case rel => exact ⟨o, st, rfl, by omega, by show _ = _; rw [if_neg hst0]; exact HOM.out, hB6⟩
              case rest =>
                obtain ⟨o2, st, rfl, hst, hom2, hB6⟩ := hcut
                clear hB4 hq hom
                have k4 := hB6.out.cell 4
                go_upto_if 44 with fail
                go_cut [] (fun wx => ∃ hg ag : Int, Hid (SeaB B a len cap g w u7 L D (GameD.cells ⟨hm, aw, hg, ag, st⟩).toArray wx) ∧ Hid ((st = 1 ∧ (0 ≤ hg ∧ hg ≤ 3) ∧ (0 ≤ ag ∧ ag ≤ 3)) ∨ (st ≠ 1 ∧ hg = 0 ∧ ag = 0)))
                case first =>
                  by_cases h1s : st = 1
                  · have g1s : (st == 1) = true := by simpa using h1s
                    have H1S := Lib.hid h1s
                    clear h1s
                    go_wp2_with fail
                    refine (LB.out _ hB6.out.cur).mono ?_
                    rintro e w7 ⟨y1, hy1, rfl, c7, g7⟩
                    have hB7 := Lib.hid (hB6.out.drawn c7 g7)
                    have k2 := hB7.out.cell 2
                    have f2 := hB7.out.free 2
                    have hB8 := Lib.hid (hB7.out.set 2 (.int .i64 y1))
                    clear c7 g7 k4
                    go_wp2_with fail
                    generalize w7.setCell ⟨D, 2, none⟩ (.int .i64 y1) = w8 at *
                    refine (LB.out _ hB8.out.cur).mono ?_
                    rintro e w9 ⟨y2, hy2, rfl, c9, g9⟩
                    have hB9 := Lib.hid (hB8.out.drawn c9 g9)
                    have k3 := hB9.out.cell 3
                    have f3 := hB9.out.free 3
                    have hB10 := Lib.hid (hB9.out.set 3 (.int .i64 y2))
                    clear c9 g9 k2 f2
                    go_wp2_with fail
                    go_meet
                    case rel => exact ⟨y1, y2, hB10, .inl ⟨H1S.out, by omega, by omega⟩⟩
                  · have g1s : (st == 1) = false := beq_eq_false_iff_ne.2 h1s
                    have H1S := Lib.hid h1s
                    clear h1s
                    go_wp2_with fail
                    go_meet
                    case rel => exact ⟨0, 0, hB6, .inr ⟨H1S.out, rfl, rfl⟩⟩
                case rest =>
                  obtain ⟨hgv, agv, hB7, hgl⟩ := hcut
                  clear hB6 k4
                  have k0 : wc.cell? ⟨D, 0, none⟩ = some (.int .i64 hm) := hB7.out.cell 0
                  have k1 : wc.cell? ⟨D, 1, none⟩ = some (.int .i64 aw) := hB7.out.cell 1
                  have k2 : wc.cell? ⟨D, 2, none⟩ = some (.int .i64 hgv) := hB7.out.cell 2
                  have k3 : wc.cell? ⟨D, 3, none⟩ = some (.int .i64 agv) := hB7.out.cell 3
                  have k4 : wc.cell? ⟨D, 4, none⟩ = some (.int .i64 st) := hB7.out.cell 4
                  have O7 := Lib.hid hB7.out.1.2.1
                  have hs7 : w.heap.size ≤ wc.heap.size := hB7.out.1.2.2.1.size
                  have hL2 := Lib.hid (hL.out.next (x := ⟨hm, aw, hgv, agv, st⟩) (by omega) (by omega) hpair.out hst hgl.out)
                  clear hL hpair hgl
                  go_wp2_with (at_builtin; refine wpList_pushL rfl (.tmp 51) (.tmp 53) 27 rfl w.heap.size 127 Tryz.underlying27 hi hz0 hz1 hz2 rfl (by decide) (GameD.cells ⟨hm, aw, hgv, agv, st⟩) rfl (by intro u hu; simp [GameD.cells] at hu; rcases hu with rfl | rfl | rfl | rfl | rfl <;> rfl) rfl rfl O7.out (by unfold maxLen; omega) (by omega) hs7 ?_; intro gg cc5 w10 o10 g10 at10 lt10; have S10 := Lib.hid (hB7.out.push o10 g10))
                  go_roundw
                  case rel => exact ⟨x + 1, o2, _, _, by omega, by go_num, rfl, hom2.out, by simp; omega, hL2, S10⟩
                  case measure => simp [RowKit.intOf]; omega
        · obtain rfl : x = b := by omega
          have hL2 := Lib.hid hL.out.row
          clear hL
          go_wp2
          go_roundw
          case rel => exact ⟨x + 1, o, m, L, by omega, by omega, by go_num, rfl, hom, by omega, hL2, hS⟩
          case measure => simp [RowKit.intOf]; omega
    · obtain rfl : b = n := by omega
      go_wp2
      go_ret
      exact ⟨_, L, m, rfl, hL.out, by omega, by omega, hS.out.2.1, hS.out.1, hS.out.2.2.1⟩
end Go.Proofs.YteciobkjfmddcaaGreat
set_option linter.unusedVariables false
namespace Go.Proofs.YteciobkjfmddcaaGreat
open Go.Lib

theorem decDigits_step (u : Nat) (h : ¬ u < 10) : decDigits u = decDigits (u / 10) ++ [UInt8.ofNat (48 + u % 10)] := by rw [decDigits, dif_neg h]
theorem dig_toNat (d : Nat) (h : d < 10) : (UInt8.ofNat (48 + d)).toNat = 48 + d := by
  rw [UInt8.toNat_ofNat']; omega
theorem decDigits_dig (u : Nat) : ∀ b ∈ decDigits u, 48 ≤ b.toNat ∧ b.toNat ≤ 57 := by
  induction u using Nat.strongRecOn with
  | _ u ih =>
    intro b hb
    by_cases h : u < 10
    · rw [decDigits_one h] at hb
      simp only [List.mem_singleton] at hb
      rw [hb, dig_toNat u h]; omega
    · rw [decDigits_step u h] at hb
      simp only [List.mem_append, List.mem_singleton] at hb
      rcases hb with hb | hb
      · exact ih (u / 10) (by omega) b hb
      · rw [hb, dig_toNat (u % 10) (by omega)]; omega
def valL (l : List UInt8) : Nat := l.foldl (fun a b => a * 10 + (b.toNat - 48)) 0
theorem valL_nil : valL [] = 0 := rfl
theorem valL_snoc (l : List UInt8) (b : UInt8) : valL (l ++ [b]) = valL l * 10 + (b.toNat - 48) := by simp [valL]
theorem valL_decDigits (u : Nat) : valL (decDigits u) = u := by
  induction u using Nat.strongRecOn with
  | _ u ih =>
    by_cases h : u < 10
    · rw [decDigits_one h]
      show 0 * 10 + ((UInt8.ofNat (48 + u)).toNat - 48) = u
      rw [dig_toNat u h]; omega
    · rw [decDigits_step u h, valL_snoc, ih (u / 10) (by omega), dig_toNat (u % 10) (by omega)]; omega
theorem decDigits_ne (u : Nat) : decDigits u ≠ [] := by
  have h1 := decDigits_length u
  have h2 := nDigits_pos u
  intro h
  rw [h] at h1
  simp at h1; omega
theorem decDigits_cons (u : Nat) : ∃ b r, decDigits u = b :: r ∧ 48 ≤ b.toNat ∧ b.toNat ≤ 57 := by
  cases h : decDigits u with
  | nil => exact absurd h (decDigits_ne u)
  | cons b r => exact ⟨b, r, rfl, decDigits_dig u b (by rw [h]; exact List.mem_cons_self ..)⟩
theorem valL_take_le (l : List UInt8) : ∀ j k, j ≤ k → valL (l.take j) ≤ valL (l.take k) := by
  intro j k hjk
  induction k with
  | zero => obtain rfl : j = 0 := by omega
            exact Nat.le_refl _
  | succ k ih =>
    by_cases h : j = k + 1
    · rw [h]; exact Nat.le_refl _
    · refine Nat.le_trans (ih (by omega)) ?_
      by_cases hk : k < l.length
      · rw [List.take_succ_eq_append_getElem hk, valL_snoc]; omega
      · rw [List.take_of_length_le (by omega), List.take_of_length_le (by omega)]; exact Nat.le_refl _
theorem nDigits_le (u : Nat) (h : u ≤ 9223372036854775808) : nDigits u ≤ 19 := by
  by_cases h19 : nDigits u ≤ 19
  · exact h19
  · exfalso
    have key : ∀ k v : Nat, v < 10 ^ (k + 1) → nDigits v ≤ k + 1 := by
      intro k
      induction k with
      | zero => intro v hv; rw [nDigits_small (by simpa using hv)]; exact Nat.le_refl _
      | succ k ih =>
        intro v hv
        by_cases hs : v < 10
        · rw [nDigits_small hs]; omega
        · rw [nDigits_big hs]
          have := ih (v / 10) (by rw [Nat.pow_succ] at hv; omega)
          omega
    have := key 18 u (by have : (10 : Nat) ^ (18 + 1) = 10000000000000000000 := by decide
                         omega)
    omega

def isInt (n : Int) : Prop := -9223372036854775808 ≤ n ∧ n ≤ 9223372036854775807
theorem itoa_neg (n : Int) (h : n < 0) : itoa n = 45 :: decDigits n.natAbs := by simp [itoa, h]
theorem itoa_pos (n : Int) (h : ¬ n < 0) : itoa n = decDigits n.toNat := by simp [itoa, h]
theorem itoa_inj {a b : Int} (h : itoa a = itoa b) : a = b := by
  by_cases ha : a < 0
  · by_cases hb : b < 0
    · rw [itoa_neg a ha, itoa_neg b hb] at h
      have h1 := congrArg valL (List.cons.inj h).2
      rw [valL_decDigits, valL_decDigits] at h1
      omega
    · rw [itoa_neg a ha, itoa_pos b hb] at h
      obtain ⟨x, r, hx, h1, h2⟩ := decDigits_cons b.toNat
      rw [hx] at h
      have := congrArg UInt8.toNat (List.cons.inj h).1
      simp at this; omega
  · by_cases hb : b < 0
    · rw [itoa_pos a ha, itoa_neg b hb] at h
      obtain ⟨x, r, hx, h1, h2⟩ := decDigits_cons a.toNat
      rw [hx] at h
      have := congrArg UInt8.toNat (List.cons.inj h).1
      simp at this; omega
    · rw [itoa_pos a ha, itoa_pos b hb] at h
      have h1 := congrArg valL h
      rw [valL_decDigits, valL_decDigits] at h1
      omega
def parsed (l : List UInt8) (v : Int) (ok : Bool) : Prop := if ok = true then isInt v ∧ itoa v = l else v = 0 ∧ ∀ n, isInt n → itoa n ≠ l
theorem parsed_unique {l : List UInt8} {v v' : Int} {b b' : Bool} (h : parsed l v b) (h' : parsed l v' b') : v = v' ∧ b = b' := by
  unfold parsed at h h'
  cases b <;> cases b' <;> simp at h h'
  · exact ⟨by rw [h.1, h'.1], rfl⟩
  · exact absurd h'.2 (h.2 v' h'.1)
  · exact absurd h.2 (h'.2 v h.1)
  · exact ⟨itoa_inj (h.2.trans h'.2.symm), rfl⟩

theorem canon_pos {n : Int} {l : List UInt8} (hn : isInt n) (h : itoa n = l) (hl : ∀ r, l ≠ 45 :: r) : l ≠ [] ∧ (∀ b ∈ l, 48 ≤ b.toNat ∧ b.toNat ≤ 57) ∧ l.length ≤ 19 ∧ valL l ≤ 9223372036854775807 ∧ n = valL l := by
  have hp : ¬ n < 0 := fun hp => hl _ (by rw [← h, itoa_neg n hp])
  rw [itoa_pos n hp] at h
  subst h
  have h1 := decDigits_length n.toNat
  have h2 := nDigits_le n.toNat (by unfold isInt at hn; omega)
  refine ⟨decDigits_ne _, decDigits_dig _, by omega, ?_, ?_⟩
  · rw [valL_decDigits]; unfold isInt at hn; omega
  · rw [valL_decDigits]; omega
theorem canon_neg {n : Int} {r : List UInt8} (hn : isInt n) (h : itoa n = 45 :: r) : r ≠ [] ∧ (∀ b ∈ r, 48 ≤ b.toNat ∧ b.toNat ≤ 57) ∧ r.length ≤ 19 ∧ valL r ≤ 9223372036854775808 ∧ n = -(valL r : Int) := by
  have hp : n < 0 := by
    by_cases hp : n < 0
    · exact hp
    · rw [itoa_pos n hp] at h
      obtain ⟨x, r', hx, h1, h2⟩ := decDigits_cons n.toNat
      rw [hx] at h
      have := congrArg UInt8.toNat (List.cons.inj h).1
      simp at this; omega
  rw [itoa_neg n hp] at h
  have h := (List.cons.inj h).2
  subst h
  have h1 := decDigits_length n.natAbs
  have h2 := nDigits_le n.natAbs (by unfold isInt at hn; omega)
  refine ⟨decDigits_ne _, decDigits_dig _, by omega, ?_, ?_⟩
  · rw [valL_decDigits]; unfold isInt at hn; omega
  · rw [valL_decDigits]; omega
end Go.Proofs.YteciobkjfmddcaaGreat
