/-
  The model's drawing of numbers (l01New, l01Byte, l01Below, l01Str): what it draws is in range, and it writes its own cursor only.
-/
import Derived.Test.YtoingkchjiipgaaProg
import Derived.Test.YtoingkchjiipgaaKit
import Derived.Lib.Hide
import Derived.Outline
import Derived.Deep.QuietTactic
import Derived.BigQuiet
set_option linter.unusedVariables false
namespace Go.Proofs.Ytoingkchjiipgaa
open Go.RowKit

/-- what the frame of a proof is told of a slice of integers that came in -/
def IsRow (k : IntKind) (w : World) (a : Option Addr) (len cap : Nat) (zs : List Int) : Prop :=
  (a = none ∧ len = 0 ∧ cap = 0 ∧ zs = []) ∨
  ∃ x, a = some x ∧ len ≤ cap ∧ cap ≤ maxLen ∧ zs.length = cap ∧ (∀ i, i < zs.length → w.cell? (x.add i) = some (.int k (zs.getD i 0))) ∧ ∀ n ∈ zs, (Lit.int k n).wf = true
/-- v is a slice of len bytes that read g in w -/
def ByteRow (w : World) (a : Option Addr) (len : Nat) (g : Nat → Nat) : Prop :=
  0 < len → ∃ b off, a = some ⟨b, off, none⟩ ∧ ∀ i, i < len → w.cell? ⟨b, off + i, none⟩ = some (.int .u8 (g i))
def getN (zs : List Int) (i : Nat) : Nat := (zs.getD i 0).toNat
theorem IsRow.bytes {w : World} {a : Option Addr} {len cap : Nat} {zs : List Int} (h : IsRow .u8 w a len cap zs) : ByteRow w a len (getN zs) ∧ (∀ i, getN zs i ≤ 255) ∧ len ≤ 9223372036854775807 := by
  rcases h with ⟨rfl, rfl, rfl, rfl⟩ | ⟨x, rfl, hl, hm, hz, hc, hw⟩
  · exact ⟨fun h => absurd h (by omega), fun i => by simp [getN], by omega⟩
  · have key : ∀ i, 0 ≤ zs.getD i 0 ∧ zs.getD i 0 ≤ 255 := by
      intro i
      by_cases hi : i < zs.length
      · have := hw zs[i] (List.getElem_mem hi)
        simp [Lit.wf, IntKind.min, IntKind.max, IntKind.signed, IntKind.bits] at this
        simp [List.getD, List.getElem?_eq_getElem hi]; omega
      · simp [List.getD, List.getElem?_eq_none (Nat.le_of_not_lt hi)]
    refine ⟨fun h0 => ?_, fun i => by have := key i; unfold getN; omega, by unfold maxLen at hm; omega⟩
    obtain ⟨b, off, spot⟩ := x
    have hc0 := hc 0 (by omega)
    have hspot : spot = none := by simpa [Addr.add] using World.cell?_spot hc0
    subst hspot
    refine ⟨b, off, rfl, fun i hi => ?_⟩
    have h1 := hc i (by omega)
    have hadd : (⟨b, off, none⟩ : Addr).add i = ⟨b, off + i, none⟩ := by unfold Addr.add; split <;> simp_all
    rw [hadd] at h1
    rw [h1]
    have := key i
    unfold getN
    congr 2
    omega
theorem ByteRow.below {w w' : World} {a : Option Addr} {len B : Nat} {g : Nat → Nat} (h : ByteRow w a len g) (hb : Below B w w') (hB : w.heap.size ≤ B) : ByteRow w' a len g := by
  intro h0
  obtain ⟨b, off, h1, h2⟩ := h h0
  exact ⟨b, off, h1, fun i hi => (hb.cell (p := ⟨b, off + i, none⟩) (Nat.lt_of_lt_of_le (World.block_lt_of_cell? w _ (h2 i hi)) hB)).trans (h2 i hi)⟩

/-- block B is the drawing's cursor over a slice of bytes below block B -/
structure Cur (B : Nat) (a : Option Addr) (len cap : Nat) (g : Nat → Nat) (w : World) : Prop where
  blk : ∃ (i : Nat) (h : Int), w.heap[B]? = some (.cells #[.slice a len cap, .int .i64 i, .int .i64 h] 93 (0, 0)) ∧ i ≤ len
  row : ByteRow w a len g
  low : 0 < len → ∀ b off, a = some ⟨b, off, none⟩ → b < B
  small : ∀ i, g i ≤ 255
  fits : len ≤ 9223372036854775807

theorem set2 {w : World} {B : Nat} {s x y : Value} {T : TypeId} (z : Value) (h : w.heap[B]? = some (.cells #[s, x, y] T (0, 0))) : (w.setCell ⟨B, 2, none⟩ z).heap[B]? = some (.cells #[s, x, z] T (0, 0)) := by
  rw [heap_setCell_same w B 2 _ _ _ h]; rfl
theorem set1 {w : World} {B : Nat} {s x y : Value} {T : TypeId} (z : Value) (h : w.heap[B]? = some (.cells #[s, x, y] T (0, 0))) : (w.setCell ⟨B, 1, none⟩ z).heap[B]? = some (.cells #[s, z, y] T (0, 0)) := by
  rw [heap_setCell_same w B 1 _ _ _ h]; rfl
theorem grown_set (w : World) (B j : Nat) (z : Value) : w.grownBy (w.setCell ⟨B, j, none⟩ z) (some B) :=
  ⟨rfl, rfl, rfl, by simp, fun k _ hk => heap_setCell_other w ⟨B, j, none⟩ k z (fun e => hk (by simp [e]))⟩
theorem grown_trans {a b c : World} {row : Option Nat} (h : a.grownBy b row) (k : b.grownBy c row) : a.grownBy c row :=
  ⟨k.os.trans h.os, k.tape.trans h.tape, k.output.trans h.output, Nat.le_trans h.size k.size, fun i hi hne => (k.block i (Nat.lt_of_lt_of_le hi h.size) hne).trans (h.block i hi hne)⟩
theorem grown_drewN {a b : World} {row : Option Nat} (h : a.grownBy b row) (q : Nat) : a.grownBy (b.drewN q) row := ⟨h.os, h.tape, h.output, h.size, h.block⟩
theorem grown_refl (a : World) (row : Option Nat) : a.grownBy a row := ⟨rfl, rfl, rfl, Nat.le_refl _, fun _ _ _ => rfl⟩
theorem ByteRow.grown {w w' : World} {a : Option Addr} {len B : Nat} {g : Nat → Nat} (h : ByteRow w a len g) (hg : w.grownBy w' (some B)) (hl : 0 < len → ∀ b off, a = some ⟨b, off, none⟩ → b < B) : ByteRow w' a len g := by
  intro h0
  obtain ⟨b, off, h1, h2⟩ := h h0
  refine ⟨b, off, h1, fun i hi => hg.cell (h2 i hi) ?_⟩
  have := hl h0 b off h1
  intro e
  simp at e; omega
theorem Cur.to {B : Nat} {a : Option Addr} {len cap : Nat} {g : Nat → Nat} {w w' : World} (h : Cur B a len cap g w) (hg : w.grownBy w' (some B))
    (hb : ∃ (i : Nat) (h : Int), w'.heap[B]? = some (.cells #[.slice a len cap, .int .i64 i, .int .i64 h] 93 (0, 0)) ∧ i ≤ len) : Cur B a len cap g w' :=
  ⟨hb, h.row.grown hg h.low, h.low, h.small, h.fits⟩

theorem and_mask (z : Int) (m : Nat) (hm : m < 2147483648) : ∃ n : Nat, n ≤ m ∧ bits .and .i64 z (m : Int) = (n : Int) := by
  refine ⟨((BitVec.ofInt 64 z) &&& (BitVec.ofInt 64 (m : Int))).toNat, ?_, ?_⟩
  · rw [BitVec.toNat_and, BitVec.ofInt_natCast, BitVec.toNat_ofNat, Nat.mod_eq_of_lt (by omega)]
    exact Nat.and_le_right
  · have h : ((BitVec.ofInt 64 z) &&& (BitVec.ofInt 64 (m : Int))).toNat ≤ m := by
      rw [BitVec.toNat_and, BitVec.ofInt_natCast, BitVec.toNat_ofNat, Nat.mod_eq_of_lt (by omega)]
      exact Nat.and_le_right
    simp only [bits]
    rw [IntKind.wrap_i64]
    show (((((BitVec.ofInt 64 z) &&& (BitVec.ofInt 64 (m : Int))).toNat : Nat) : Int) + 9223372036854775808) % 18446744073709551616 - 9223372036854775808 = _
    omega
theorem and255 (z : Int) : ∃ n : Nat, n ≤ 255 ∧ bits .and .i64 z 255 = (n : Int) := and_mask z 255 (by decide)

/-- a number below lim is drawn from the cursor in block B; nothing else that was there is written -/
def Drawn (B : Nat) (a : Option Addr) (len cap : Nat) (g : Nat → Nat) (lim : Nat) (w : World) (e : Ending) (w' : World) : Prop :=
  ∃ x : Nat, x < lim ∧ e = .returned (.int .i64 (x : Int)) ∧ Cur B a len cap g w' ∧ w.grownBy w' (some B)
theorem drawn_set {B : Nat} {a : Option Addr} {len cap : Nat} {g : Nat → Nat} {lim : Nat} {w w2 : World} {i : Nat} {h2 : Int} (q y : Nat) (hg : w.grownBy w2 (some B)) (hc : Cur B a len cap g w2)
    (hb : w2.heap[B]? = some (.cells #[.slice a len cap, .int .i64 i, .int .i64 h2] 93 (0, 0))) (hi : i < len) (hy : y < lim) :
    Drawn B a len cap g lim w (.returned (.int .i64 (y : Int))) ((w2.drewN q).setCell ⟨B, 1, none⟩ (.int .i64 ((i : Int) + 1))) := by
  have hG : w2.grownBy ((w2.drewN q).setCell ⟨B, 1, none⟩ (.int .i64 ((i : Int) + 1))) (some B) := grown_trans (grown_drewN (grown_refl w2 (some B)) q) (grown_set (w2.drewN q) B 1 (.int .i64 ((i : Int) + 1)))
  exact ⟨y, hy, rfl, hc.to hG ⟨i + 1, h2, set1 (w := w2.drewN q) (.int .i64 ((i : Int) + 1)) hb, hi⟩, grown_trans hg hG⟩
theorem drawn_plain {B : Nat} {a : Option Addr} {len cap : Nat} {g : Nat → Nat} {lim : Nat} {w w2 : World} {i : Nat} {h2 : Int} (q q2 y : Nat) (hg : w.grownBy w2 (some B)) (hc : Cur B a len cap g w2)
    (hb : w2.heap[B]? = some (.cells #[.slice a len cap, .int .i64 i, .int .i64 h2] 93 (0, 0))) (hi : i ≤ len) (hy : y < lim) :
    Drawn B a len cap g lim w (.returned (.int .i64 (y : Int))) ((w2.drewN q).drewN q2) := by
  have hG : w2.grownBy ((w2.drewN q).drewN q2) (some B) := grown_drewN (grown_drewN (grown_refl w2 (some B)) q) q2
  exact ⟨y, hy, rfl, hc.to hG ⟨i, h2, hb, hi⟩, grown_trans hg hG⟩
theorem l01Byte_any (B : Nat) (a : Option Addr) (len cap : Nat) (g : Nat → Nat) (w : World) (hc : Cur B a len cap g w) :
    Calls Try.prog 68 #[.pointer (some ⟨B, 0, none⟩)] w (Drawn B a len cap g 256 w) := by
  obtain ⟨i, h, hB, hi⟩ := hc.blk
  have c2 : w.cell? ⟨B, 2, none⟩ = some (.int .i64 h) := by rw [cell_of_row w B 2 _ _ (0, 0) hB]; rfl
  have f2 : w.frozen? ⟨B, 2, none⟩ = false := frozen_of_row w B 2 _ _ hB
  have hfit := hc.fits
  have HB := Lib.hid hB
  clear hB
  have HC := Lib.hid hc
  clear hc
  go_enter Try.func68, Try.ntmps68
  go_wp2
  generalize wrap64 (wrap64 (h * 6364136223846793005) + 1442695040888963407) = h2
  have HB2 := Lib.hid (set2 (.int .i64 h2) HB.out)
  have HG2 := Lib.hid (grown_set w B 2 (.int .i64 h2))
  have HC2 := Lib.hid (HC.out.to HG2.out ⟨i, h2, HB2.out, hi⟩)
  generalize w.setCell ⟨B, 2, none⟩ (.int .i64 h2) = w2 at *
  clear c2 f2 HB HC
  have c0 : w2.cell? ⟨B, 0, none⟩ = some (.slice a len cap) := by rw [cell_of_row w2 B 0 _ _ (0, 0) HB2.out]; rfl
  have c1 : w2.cell? ⟨B, 1, none⟩ = some (.int .i64 i) := by rw [cell_of_row w2 B 1 _ _ (0, 0) HB2.out]; rfl
  have c2 : w2.cell? ⟨B, 2, none⟩ = some (.int .i64 h2) := by rw [cell_of_row w2 B 2 _ _ (0, 0) HB2.out]; rfl
  have f1 : w2.frozen? ⟨B, 1, none⟩ = false := frozen_of_row w2 B 1 _ _ HB2.out
  by_cases hlt : i < len
  · obtain ⟨b, off, rfl, hcell⟩ := HC2.out.row (by omega)
    have hcb := hcell i hlt
    have hgi := HC2.out.small i
    have hne : ¬ (b = B) := by have := HC2.out.low (by omega) b off rfl; omega
    clear hcell
    obtain ⟨x, hx, hxe⟩ := and255 (bits BinOp.xor IntKind.i64 (h2 / 8589934592) (h2 / 35184372088832))
    go_quiet (fail)
    go_wp2
    clear hxe
    go_quiet (fail)
    go_wp2
    obtain ⟨y, hy, hye⟩ := and255 ((x : Int) + (g i : Int))
    have hwr : IntKind.i64.wrap ((x : Int) + (g i : Int)) = (x : Int) + (g i : Int) := by rw [IntKind.wrap_i64]; omega
    go_quiet (fail)
    go_wp2
    go_ret
    exact drawn_set _ y HG2.out HC2.out HB2.out hlt (by omega)
  · obtain ⟨x, hx, hxe⟩ := and255 (bits BinOp.xor IntKind.i64 (h2 / 8589934592) (h2 / 35184372088832))
    go_quiet (fail)
    go_wp2
    clear hxe
    go_quiet (fail)
    go_wp2
    go_ret
    exact drawn_plain _ _ x HG2.out HC2.out HB2.out hi (by omega)

theorem l01Below_small (B : Nat) (a : Option Addr) (len cap : Nat) (g : Nat → Nat) (n : Nat) (w : World) (hc : Cur B a len cap g w) (h0 : 0 < n) (hn : n ≤ 256) :
    Calls Try.prog 47 #[.pointer (some ⟨B, 0, none⟩), .int .i64 (n : Int)] w (Drawn B a len cap g n w) := by
  have g0 : decide ((n : Int) ≤ 0) = false := decide_eq_false (by omega)
  have g1 : decide ((n : Int) ≤ 256) = true := decide_eq_true (by omega)
  have HC := Lib.hid hc
  clear hc
  go_enter Try.func47, Try.ntmps47
  go_wp2_with fail
  refine (l01Byte_any B a len cap g _ HC.out).mono ?_
  rintro e w1 ⟨x, hx, rfl, c1, g1⟩
  have Hc1 := Lib.hid c1
  have Hg1 := Lib.hid g1
  clear c1 g1
  go_wp2
  go_ret
  exact ⟨x % n, Nat.mod_lt _ h0, by simp, Hc1.out, Hg1.out⟩
theorem l01Below_big (B : Nat) (a : Option Addr) (len cap : Nat) (g : Nat → Nat) (n : Nat) (w : World) (hc : Cur B a len cap g w) (hn : 256 < n) (hn2 : n ≤ 9223372036854775807) :
    Calls Try.prog 47 #[.pointer (some ⟨B, 0, none⟩), .int .i64 (n : Int)] w (Drawn B a len cap g n w) := by
  have g0 : decide ((n : Int) ≤ 0) = false := decide_eq_false (by omega)
  have g1 : decide ((n : Int) ≤ 256) = false := decide_eq_false (by omega)
  have HC := Lib.hid hc
  clear hc
  go_enter Try.func47, Try.ntmps47
  go_wp2_with fail
  refine (l01Byte_any B a len cap g _ HC.out).mono ?_
  rintro e w1 ⟨x1, hx1, rfl, c1, r1⟩
  have Hc1 := Lib.hid c1
  have Hr1 := Lib.hid r1
  clear c1 r1
  go_wp2_with fail
  refine (l01Byte_any B a len cap g _ Hc1.out).mono ?_
  rintro e w2 ⟨x2, hx2, rfl, c2, r2⟩
  have Hc2 := Lib.hid c2
  have Hr2 := Lib.hid (grown_trans Hr1.out r2)
  clear c2 r2
  go_wp2_with fail
  refine (l01Byte_any B a len cap g _ Hc2.out).mono ?_
  rintro e w3 ⟨x3, hx3, rfl, c3, r3⟩
  have Hc3 := Lib.hid c3
  have Hr3 := Lib.hid (grown_trans Hr2.out r3)
  clear c3 r3
  go_wp2_with fail
  refine (l01Byte_any B a len cap g _ Hc3.out).mono ?_
  rintro e w4 ⟨x4, hx4, rfl, c4, r4⟩
  have Hc4 := Lib.hid c4
  have Hr4 := Lib.hid (grown_trans Hr3.out r4)
  clear c4 r4
  go_wp2
  go_ret
  exact ⟨(x1 * 16777216 + x2 * 65536 + x3 * 256 + x4) % n, Nat.mod_lt _ (by omega), by simp, Hc4.out, Hr4.out⟩
theorem l01Below_any (B : Nat) (a : Option Addr) (len cap : Nat) (g : Nat → Nat) (n : Nat) (w : World) (hc : Cur B a len cap g w) (h0 : 0 < n) (hn2 : n ≤ 9223372036854775807) :
    Calls Try.prog 47 #[.pointer (some ⟨B, 0, none⟩), .int .i64 (n : Int)] w (Drawn B a len cap g n w) := by
  by_cases h : n ≤ 256
  · exact l01Below_small B a len cap g n w hc h0 h
  · exact l01Below_big B a len cap g n w hc (by omega) hn2

/-- a new cursor over the bytes of code -/
def CurMade (a : Option Addr) (len cap : Nat) (g : Nat → Nat) (w : World) (e : Ending) (w' : World) : Prop :=
  ∃ B, e = .returned (.pointer (some ⟨B, 0, none⟩)) ∧ w.heap.size ≤ B ∧ Cur B a len cap g w' ∧ Below w.heap.size w w'
theorem cur_made {a : Option Addr} {len cap : Nat} {g : Nat → Nat} {w : World} (h : Int) (hr : ByteRow w a len g) (hg : ∀ i, g i ≤ 255) (hl : len ≤ 1048576) :
    CurMade a len cap g w (.returned (.pointer (some ⟨w.heap.size, 0, none⟩))) (w.alloc (.cells #[.slice a len cap, .int .i64 0, .int .i64 h] 93)) := by
  have hb : Below w.heap.size w (w.alloc (.cells #[.slice a len cap, .int .i64 0, .int .i64 h] 93)) := (Below.refl _ _).alloc (Nat.le_refl _) _
  refine ⟨w.heap.size, rfl, Nat.le_refl _, ⟨⟨0, h, heap_alloc_new w _, Nat.zero_le _⟩, hr.below hb (Nat.le_refl _), fun h0 b off e => ?_, hg, by omega⟩, hb⟩
  obtain ⟨b', off', e', hc⟩ := hr h0
  rw [e'] at e
  simp only [Option.some.injEq, Addr.mk.injEq] at e
  rw [← e.1]
  exact World.block_lt_of_cell? w _ (hc 0 h0)
set_option maxRecDepth 100000 in
theorem l01New_any (a : Option Addr) (len cap : Nat) (g : Nat → Nat) (w : World) (hr : ByteRow w a len g) (hg : ∀ i, g i ≤ 255) (hl : len ≤ 1048576) :
    Calls Try.prog 45 #[.slice a len cap] w (CurMade a len cap g w) := by
  have HR := Lib.hid hr
  have HG := Lib.hid hg
  clear hr hg
  go_enter Try.func45, Try.ntmps45
  go_wp2
  go_loop [3, 4] (fun hv i => ∃ (j : Nat) (h : Int), j ≤ len ∧ i = .int .i64 j ∧ hv = .int .i64 h) (fun _ i => len - (intOf i).toNat)
  case atStart => exact ⟨0, _, Nat.zero_le _, rfl, rfl⟩
  case round =>
    obtain ⟨j, h, hj, rfl, rfl⟩ := hrel
    by_cases hlt : j < len
    · by_cases h4 : j < 4000
      · obtain ⟨b, off, rfl, hcell⟩ := HR.out (by omega)
        have hc := hcell j hlt
        have hgj := HG.out j
        clear hcell
        go_wp2
        go_round
        case rel => exact ⟨j + 1, _, by omega, by go_num, rfl⟩
        case measure => simp [intOf]; omega
      · go_wp2
        go_ret
        exact cur_made h HR.out HG.out hl
    · go_wp2
      go_ret
      exact cur_made h HR.out HG.out hl

def mtL : Nat → ByteArray
  | 0 => ⟨#[97]⟩
  | 1 => ⟨#[98, 99]⟩
  | 2 => ⟨#[32]⟩
  | 3 => ⟨#[44]⟩
  | _ => ⟨#[120, 49]⟩
theorem mtL_size (i : Nat) : (mtL i).size ≤ 2 := by
  match i with
  | 0 => decide
  | 1 => decide
  | 2 => decide
  | 3 => decide
  | n + 4 => show (2 : Nat) ≤ 2; omega
end Go.Proofs.Ytoingkchjiipgaa
