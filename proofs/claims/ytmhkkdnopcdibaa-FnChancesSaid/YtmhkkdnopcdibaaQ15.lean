/-
  Packed: IntFmt, FieldMake, BookAt, Find.
-/
import Derived.Test.YtmhkkdnopcdibaaProg
import Derived.Laws.BytesArg
import Derived.Deep.RegionWith
import Derived.WalkSmall
import Derived.Sort.Grow
import Derived.KernelRfl
import Derived.Outline
import Derived.Deep.RegionHeld3
import Derived.Deep.AppendLies
import Derived.Test.YtmhkkdnopcdibaaQ1
import Derived.Test.YtmhkkdnopcdibaaQ2
import Derived.Test.YtmhkkdnopcdibaaQ3
import Derived.Test.YtmhkkdnopcdibaaQ6
import Derived.Test.YtmhkkdnopcdibaaQ10
import Derived.Test.YtmhkkdnopcdibaaQ12
import Derived.Test.YtmhkkdnopcdibaaQ13
import Derived.Test.YtmhkkdnopcdibaaQ14
set_option linter.unusedVariables false
namespace Go.Proofs.Ytmhkkdnopcdibaa
open Go.RowKit
open Go.Sort (grow)

theorem one_byte {P : Program} (w : World) (src dst e : TypeId) (hs : P.underlying src = some (.slice e)) (he : P.underlying e = some (.int .u8)) (hd : P.underlying dst = some .string) (v : Int) :
    (convert src dst (.slice (some ⟨w.heap.size, 0, none⟩) 1 1)).run P (w.alloc (.cells #[.int .u8 v] e)) = .ok (.string ⟨[UInt8.ofNat v.toNat].toArray⟩) (w.alloc (.cells #[.int .u8 v] e)) := by
  have h := run_convert_bytes_arg (P := P) (w.alloc (.cells #[.int .u8 v] e)) src e hs he w.heap.size 0 1 1 [v] rfl (fun i hi => by
    obtain rfl : i = 0 := by omega
    simp) dst hd
  rw [h]
  rfl
theorem one_byte_at {P : Program} (src dst e : TypeId) (hs : P.underlying src = some (.slice e)) (he : P.underlying e = some (.int .u8)) (hd : P.underlying dst = some .string) (v : Int) (B : Nat) (W : World)
    (hc : W.cell? ⟨B, 0, none⟩ = some (.int .u8 v)) :
    (convert src dst (.slice (some ⟨B, 0, none⟩) 1 1)).run P W = .ok (.string ⟨[UInt8.ofNat v.toNat].toArray⟩) W := by
  have h := run_convert_bytes_arg (P := P) W src e hs he B 0 1 1 [v] rfl (fun i hi => by
    obtain rfl : i = 0 := by omega
    simpa using hc) dst hd
  rw [h]
  rfl
theorem kept_cell1 {w w1 : World} {v : Value} {e : TypeId} (b : Below (w.drew.alloc (.cells #[v] e)).heap.size (w.drew.alloc (.cells #[v] e)) w1) : w1.cell? ⟨w.heap.size, 0, none⟩ = some v := by
  rw [b.cell (p := ⟨w.heap.size, 0, none⟩) (by simp)]
  exact World.cell?_alloc_mark w.drew #[v] e (0, 0) 0
theorem kept_cell2 {w w1 : World} {v : Value} {e : TypeId} (b : Below (w.alloc (.cells #[v] e)).drew.heap.size (w.alloc (.cells #[v] e)).drew w1) : w1.cell? ⟨w.heap.size, 0, none⟩ = some v := by
  rw [b.cell (p := ⟨w.heap.size, 0, none⟩) (by simp)]
  exact World.cell?_alloc_mark w #[v] e (0, 0) 0
theorem cats (x y : List UInt8) : (ByteArray.mk x.toArray ++ ByteArray.mk y.toArray) = ByteArray.mk (x ++ y).toArray := ByteArray.mk_append_mk x y

theorem of48 (x : Nat) : UInt8.ofNat (48 + x) = 48 + UInt8.ofNat x := by simp

set_option maxRecDepth 100000 in
theorem formatInt_nat (m : Nat) (w : World) (hm : m ≤ 9223372036854775807) :
    Calls Try.prog 90 #[.int .i64 (m : Int)] w fun e w' => e = .returned (.string ⟨(Lib.decDigits m).toArray⟩) ∧ Below w.heap.size w w' := by
  go_enter Try.func90, Try.ntmps90
  go_wp2_with fail
  go_loopw [0, 3] (fun nv sv wr => ∃ (j : Nat) (l : List UInt8), nv = .int .i64 (j : Int) ∧ sv = .string ⟨l.toArray⟩ ∧ 2 * l.length + j ≤ m ∧ Hid (Lib.decDigits j ++ l = Lib.decDigits m) ∧ Below w.heap.size w wr) (fun nv _ _ => (RowKit.intOf nv).toNat)
  case atStart => exact ⟨m, [], rfl, rfl, by simp, by simp [Hid], Below.refl _ _⟩
  case round =>
    obtain ⟨j, l, rfl, rfl, hl, hd, hb⟩ := hrel
    have hz : l.toArray.size ≤ 4611686018427387904 := by simp; omega
    by_cases h9 : 9 < j
    · have hcv := one_byte (P := Try.prog) wr 22 9 5 Try.underlying22 Try.underlying5 Try.underlying9 (48 + (j : Int) % 10)
      have Hd : Hid (Lib.decDigits (j / 10) ++ ((48 + UInt8.ofNat (j % 10)) :: l) = Lib.decDigits m) := by
        show _ = _; rw [← hd.out, decDigits_step j (by omega), of48]; simp
      go_wp2_with fail
      go_roundw
      case rel =>
        exact ⟨j / 10, (48 + UInt8.ofNat (j % 10)) :: l, by go_num, congrArg Value.string (cats [48 + UInt8.ofNat (j % 10)] l), by simp; omega, Hd.out, hb.alloc hb.size _⟩
      case measure => simp [RowKit.intOf]; omega
    · have hcv := one_byte (P := Try.prog) wr 22 9 5 Try.underlying22 Try.underlying5 Try.underlying9 (48 + (j : Int))
      have Hd : Hid (((48 + UInt8.ofNat j) :: l) = Lib.decDigits m) := by
        show _ = _; rw [← hd.out, Lib.decDigits_one (show j < 10 by omega), of48]; rfl
      go_wp2_with fail
      go_ret
      exact ⟨by rw [← Hd.out]; exact congrArg (fun x => Ending.returned (Value.string x)) (cats [48 + UInt8.ofNat j] l), hb.alloc hb.size _⟩

set_option maxRecDepth 100000 in
theorem formatInt_neg (m : Nat) : ∀ w : World, 1 ≤ m → m ≤ 9223372036854775808 →
    Calls Try.prog 90 #[.int .i64 (-(m : Int))] w fun e w' => e = .returned (.string ⟨(45 :: Lib.decDigits m).toArray⟩) ∧ Below w.heap.size w w' := by
  induction m using Nat.strongRecOn with
  | _ m ih =>
  intro w h1 hm
  by_cases h9 : m < 10
  · have hcv := one_byte (P := Try.prog) w 22 9 5 Try.underlying22 Try.underlying5 Try.underlying9 (48 + (m : Int))
    have g1 : (-((m : Int) / 10) == 0) = true := by
      have : -((m : Int) / 10) = 0 := by omega
      simp [this]
    have hd := Lib.hid (Lib.decDigits_one h9)
    go_enter Try.func90, Try.ntmps90
    go_wp2_with fail
    go_ret
    refine ⟨?_, (Below.refl _ _).alloc (Nat.le_refl _) _⟩
    rw [hd.out, of48]
    exact congrArg (fun x => Ending.returned (Value.string x)) (cats [45] [48 + UInt8.ofNat m])
  · have g1 : (-((m : Int) / 10) == 0) = false := by
      have : -((m : Int) / 10) ≠ 0 := by omega
      simp; omega
    have ih' : Hid (∀ w : World, Calls Try.prog 90 #[.int .i64 (-((m : Int) / 10))] w fun e w' => e = .returned (.string ⟨(45 :: Lib.decDigits (m / 10)).toArray⟩) ∧ Below w.heap.size w w') := fun w => by
      have := ih (m / 10) (by omega) w (by omega) (by omega)
      rwa [show (-(((m / 10 : Nat)) : Int)) = -((m : Int) / 10) by omega] at this
    have Hd : Hid (Lib.decDigits m = Lib.decDigits (m / 10) ++ [UInt8.ofNat (48 + m % 10)]) := decDigits_step m (by omega)
    have hlen : (Lib.decDigits (m / 10)).length ≤ 19 := by rw [Lib.decDigits_length]; exact nDigits_le _ (by omega)
    clear ih
    generalize Lib.decDigits (m / 10) = D at *
    have e1 : IntKind.i64.wrap (-((m : Int) / 10)) = -((m : Int) / 10) := IntWalk.i64_in _ (by omega)
    have e2 : (m : Int).tmod 10 = (m : Int) % 10 := Int.tmod_eq_emod_of_nonneg (by omega)
    have e3 : IntKind.i64.wrap (48 + (m : Int) % 10) = 48 + (m : Int) % 10 := IntWalk.i64_in _ (by omega)
    have e4 : IntKind.u8.wrap (48 + (m : Int) % 10) = 48 + (m : Int) % 10 := by
      simp [IntKind.wrap, IntKind.bits, IntKind.signed]; omega
    have hcv := fun B W hc => one_byte_at (P := Try.prog) 22 9 5 Try.underlying22 Try.underlying5 Try.underlying9 (48 + (m : Int) % 10) B W hc
    go_enter Try.func90, Try.ntmps90
    go_wp2_with fail
    go_region_with (go_at_call 90; refine (ih'.out _).mono ?_; rintro e w1 ⟨rfl, b1⟩; first | (have hc1 := kept_cell1 b1) | (have hc1 := kept_cell2 b1) | skip)
    all_goals
      go_wp2_with fail
      go_ret
      refine ⟨by rw [Hd.out, of48]; exact congrArg (fun x => Ending.returned (Value.string x)) (cats (45 :: D) [48 + UInt8.ofNat (m % 10)]), ?_⟩
      have hs := b1.size
      first
        | exact ((Below.refl _ _).drew.trans b1).alloc hs _
        | exact ((Below.refl _ w).drew.alloc (Nat.le_refl _) _).trans (b1.mono (by simp))
        | exact (((Below.refl _ w).alloc (Nat.le_refl _) _).drew).trans (b1.mono (by simp))

theorem formatInt_spec (n : Int) (w : World) (h : isInt n) :
    Calls Try.prog 90 #[.int .i64 n] w fun e w' => e = .returned (.string ⟨(Lib.itoa n).toArray⟩) ∧ Below w.heap.size w w' := by
  unfold isInt at h
  by_cases hp : n < 0
  · have := formatInt_neg n.natAbs w (by omega) (by omega)
    rw [show (-((n.natAbs : Nat) : Int)) = n by omega, ← itoa_neg n hp] at this
    exact this
  · have := formatInt_nat n.toNat w (by omega)
    rw [show ((n.toNat : Nat) : Int) = n by omega, ← itoa_pos n hp] at this
    exact this
theorem grow_below (w : World) (k : Nat) (os : Array Obj) : Below w.heap.size w (grow (w.drewN k) os) := by
  refine ⟨rfl, rfl, rfl, by simp [grow], fun i hi => ?_⟩
  show (w.heap ++ os)[i]? = w.heap[i]?
  rw [Array.getElem?_append_left hi]
end Go.Proofs.Ytmhkkdnopcdibaa
set_option linter.unusedVariables false
namespace Go.Proofs.Ytmhkkdnopcdibaa
open Go.RowKit

theorem Cur.below {B : Nat} {a : Option Addr} {len cap : Nat} {g : Nat → Nat} {w w' : World} (h : Cur B a len cap g w) (hb : Below w.heap.size w w') : Cur B a len cap g w' := by
  obtain ⟨i, x, hh, hi⟩ := h.blk
  have hlt : B < w.heap.size := (Array.getElem?_eq_some_iff.1 hh).1
  refine ⟨⟨i, x, (hb.block B hlt).trans hh, hi⟩, h.row.below hb (Nat.le_refl _), h.low, h.small, h.fits⟩
theorem Cur.lt {B : Nat} {a : Option Addr} {len cap : Nat} {g : Nat → Nat} {w : World} (h : Cur B a len cap g w) : B < w.heap.size := by
  obtain ⟨i, x, hh, hi⟩ := h.blk
  exact (Array.getElem?_eq_some_iff.1 hh).1
theorem Cur.belowB {B base : Nat} {a : Option Addr} {len cap : Nat} {g : Nat → Nat} {w w' : World} (h : Cur B a len cap g w) (hb : Below base w w') (hB : B < base) : Cur B a len cap g w' := by
  obtain ⟨i, x, hh, hi⟩ := h.blk
  refine ⟨⟨i, x, (hb.block B hB).trans hh, hi⟩, fun h0 => ?_, h.low, h.small, h.fits⟩
  obtain ⟨b, off, h1, h2⟩ := h.row h0
  have := h.low h0 b off h1
  exact ⟨b, off, h1, fun i hi => (hb.cell (p := ⟨b, off + i, none⟩) (show b < base by omega)).trans (h2 i hi)⟩
def madeNm (i : Nat) : ByteArray := ⟨#[116]⟩ ++ ⟨(Lib.itoa (i : Int)).toArray⟩
def MadeF (n turn : Nat) (G : Nat → TeamD) (k : Nat) : Prop := ∀ i, i < k → (G i).nm = madeNm i ∧ (0 ≤ (G i).club ∧ (G i).club ≤ 3) ∧ (G i).seed = (((i + turn) % n : Nat) : Int) + 1
def FieldMade (B : Nat) (a : Option Addr) (len cap : Nat) (g : Nat → Nat) (n : Nat) (w : World) (e : Ending) (w' : World) : Prop :=
  ∃ v G turn xs, e = .returned v ∧ turn < n ∧ MadeF n turn G n ∧ w'.ownsRow w.heap.size 86 3 v n xs ∧
    (∀ t, t < n → xs[t * 3]? = some (.string (G t).nm) ∧ xs[t * 3 + 1]? = some (.int .i64 (G t).club) ∧ xs[t * 3 + 2]? = some (.int .i64 (G t).seed)) ∧ Cur B a len cap g w' ∧ w.grownBy w' (some B)
def FieldS (B : Nat) (a : Option Addr) (len cap : Nat) (g : Nat → Nat) (w0 : World) (u : Value) (j : Nat) (xs : List Value) (w : World) : Prop :=
  Cur B a len cap g w ∧ w.ownsRow w0.heap.size 86 3 u j xs ∧ w0.grownBy w (some B) ∧ B < w0.heap.size
section
variable {B : Nat} {a : Option Addr} {len cap : Nat} {g : Nat → Nat} {w0 : World} {u : Value} {j : Nat} {xs : List Value} {w w' : World}
theorem FieldS.owns (h : FieldS B a len cap g w0 u j xs w) : w.ownsRow w0.heap.size 86 3 u j xs := h.2.1
theorem FieldS.size (h : FieldS B a len cap g w0 u j xs w) : w0.heap.size ≤ w.heap.size := h.2.2.1.size
theorem FieldS.cur (h : FieldS B a len cap g w0 u j xs w) : Cur B a len cap g w := h.1
theorem FieldS.drew (h : FieldS B a len cap g w0 u j xs w) : FieldS B a len cap g w0 u j xs w.drew :=
  ⟨⟨h.1.blk, h.1.row, h.1.low, h.1.small, h.1.fits⟩, h.2.1, ⟨h.2.2.1.os, h.2.2.1.tape, h.2.2.1.output, h.2.2.1.size, h.2.2.1.block⟩, h.2.2.2⟩
theorem FieldS.below (hb : Below w.heap.size w w') (h : FieldS B a len cap g w0 u j xs w) : FieldS B a len cap g w0 u j xs w' :=
  ⟨h.1.below hb, owns_below h.2.1 hb (Nat.le_refl _), grown_trans h.2.2.1 (tgrown_any (below_grown hb (Nat.le_refl _)) (some B)), h.2.2.2⟩
theorem FieldS.alloc (o : Obj) (h : FieldS B a len cap g w0 u j xs w) : FieldS B a len cap g w0 u j xs (w.alloc o) := FieldS.below ((Below.refl _ _).alloc (Nat.le_refl _) _) h
theorem FieldS.drawn (hc : Cur B a len cap g w') (hg : w.grownBy w' (some B)) (h : FieldS B a len cap g w0 u j xs w) : FieldS B a len cap g w0 u j xs w' := by
  refine ⟨hc, h.2.1.kept hg ?_, grown_trans h.2.2.1 hg, h.2.2.2⟩
  cases h5 : u.ownBlock with
  | none => exact .inl rfl
  | some k5 => exact .inr (fun e => by
      have h1 := (h.2.1.lt k5 h5).1
      have h2 := h.2.2.2
      have : k5 = B := by simpa using e
      omega)
theorem FieldS.push {o : Obj} {v : Value} {ys : List Value} (hg : (w.alloc o).grownBy w' u.ownBlock) (ho : w'.ownsRow w0.heap.size 86 3 v (j + 1) ys) (h : FieldS B a len cap g w0 u j xs w) : FieldS B a len cap g w0 v (j + 1) ys w' := by
  have hrow : ∀ k, u.ownBlock = some k → w0.heap.size ≤ k := fun k hk => (h.2.1.lt k hk).1
  have hsz := h.2.2.1.size
  have hb : Below w0.heap.size w w' := (((Below.refl _ w).alloc hsz o)).grown hg (by simp; omega) hrow
  refine ⟨h.1.belowB hb h.2.2.2, ho, ⟨hb.os.trans h.2.2.1.os, hb.tape.trans h.2.2.1.tape, hb.output.trans h.2.2.1.output, Nat.le_trans hsz hb.size, fun k hk hne => ?_⟩, h.2.2.2⟩
  rw [hb.block k hk, h.2.2.1.block k hk hne]
end
set_option maxRecDepth 100000 in
set_option maxHeartbeats 3000000 in
theorem l02Field_any (B : Nat) (a : Option Addr) (len cap : Nat) (g : Nat → Nat) (n : Nat) (w : World) (hc : Cur B a len cap g w) (h0 : 0 < n) (hn : n ≤ 6) :
    Calls Try.prog 76 #[.pointer (some ⟨B, 0, none⟩), .int .i64 (n : Int)] w (FieldMade B a len cap g n w) := by
  obtain ⟨i0, hi, hz0, hz1, hz2⟩ := info_parts Try.infoTeam
  have hlB := hc.lt
  have HC := Lib.hid hc
  clear hc
  have L1 := Lib.hid (fun w1 hc (m : Nat) (h1 : 0 < m) (h2 : m ≤ 256) => l01Below_small B a len cap g m w1 hc h1 h2)
  go_enter Try.func76, Try.ntmps76
  go_wp2_with fail
  have o0 : (w.alloc (.cells #[] 86)).ownsRow w.heap.size 86 3 (.slice (some ⟨w.heap.size, 0, none⟩) 0 0) 0 [] := World.ownsRow_lit w #[] 0 (Nat.le_refl _) (by decide) rfl
  have c0 := HC.out.below ((Below.refl _ _).alloc (Nat.le_refl _) (.cells #[] 86))
  refine (L1.out _ c0 n h0 (by omega)).mono ?_
  rintro e w1 ⟨turn, hturn, rfl, c1, g1⟩
  have o1 := o0.kept g1 (.inr fun e => by have : w.heap.size = B := by simpa [Value.ownBlock] using e
                                          omega)
  have gw1 : w.grownBy w1 (some B) := grown_trans (World.grownBy_alloc w _ _) g1
  have FI := Lib.hid (fun (j : Nat) w (hj : j < 100) => formatInt_spec (j : Int) w (by unfold isInt; omega))
  clear o0 c0 g1
  go_wp2
  go_loopw [5, 7] (fun out i wr => ∃ (j : Nat) (xs : List Value) (G : Nat → TeamD), j ≤ n ∧ i = .int .i64 j ∧ Hid (MadeF n turn G j) ∧
      Hid (∀ t, t < j → xs[t * 3]? = some (.string (G t).nm) ∧ xs[t * 3 + 1]? = some (.int .i64 (G t).club) ∧ xs[t * 3 + 2]? = some (.int .i64 (G t).seed)) ∧ FieldS B a len cap g w out j xs wr)
    (fun _ i _ => n - (RowKit.intOf i).toNat)
  case atStart => exact ⟨0, [], fun _ => ⟨ByteArray.empty, 0, 0⟩, Nat.zero_le _, rfl, fun i hi => absurd hi (by omega), fun t ht => absurd ht (by omega), c1, o1, gw1, hlB⟩
  case round =>
    clear o1 c1 gw1
    obtain ⟨j, xs, G, hj, rfl, hG, hxs, hS⟩ := hrel
    by_cases hlt : j < n
    · have hmod : Int.tmod ((j : Int) + turn) n = (((j + turn) % n : Nat) : Int) := by
        rw [show ((j : Int) + turn) = ((j + turn : Nat) : Int) by omega]
        rfl
      have hml : (j + turn) % n < n := Nat.mod_lt _ h0
      have hnz : ((n : Int) == 0) = false := by simp; omega
      have hnz2 : (n == 0) = false := by simp; omega
      have hnz3 : ¬ n = 0 := by omega
      have hnz4 : ¬ (n : Int) = 0 := by omega
      have w1' : IntKind.i64.wrap ((j : Int) + turn) = (j : Int) + turn := by rw [IntKind.wrap_i64]; omega
      have w2' : IntKind.i64.wrap ((((j + turn) % n : Nat) : Int) + 1) = (((j + turn) % n : Nat) : Int) + 1 := by rw [IntKind.wrap_i64]; omega
      obtain ⟨Z, HZ, hZl, FZ⟩ : ∃ Z : List UInt8, Hid (Z = Lib.itoa (j : Int)) ∧ Z.length ≤ 19 ∧ Hid (∀ w, Calls Try.prog 90 #[.int .i64 (j : Int)] w fun e w' => e = .returned (.string ⟨Z.toArray⟩) ∧ Below w.heap.size w w') :=
        ⟨_, rfl, by rw [itoa_pos _ (by omega), Lib.decDigits_length]; exact nDigits_le _ (by omega), fun w => FI.out j w (by omega)⟩
      have hzz : Z.toArray.size ≤ 4611686018427387904 := by simp; omega
      have hzl2 : ¬ 9223372036854775807 < 1 + Z.length := by omega
      clear FI
      generalize hsd : (((j + turn) % n : Nat) : Int) = sd at *
      have HSD := Lib.hid hsd
      clear hsd
      have s0 := hS.drew
      clear hS
      go_wp2_with fail
      go_region_held3 (fun w' => True) (trivial)
        (first
          | (go_at_call 90; refine (FZ.out _).mono ?_; rintro e wa ⟨rfl, ba⟩; have sa := FieldS.below ba (by assumption))
          | (go_at_call 75; refine (L1.out _ (FieldS.cur (by assumption)) 4 (by omega) (by omega)).mono ?_; rintro e wb ⟨cl, hcl, rfl, cb, gb⟩; have sb := FieldS.drawn cb gb (by assumption))
          | (refine step_append_lies _ (by rfl) (.tmp 17) (.tmp 30) 23 (by rfl) w.heap.size 86 i0 (.agg #[.string ByteArray.empty, .int .i64 0, .int .i64 0]) 3 32 Try.underlying23 hi hz0 hz1 hz2 rfl (by decide) u5 j xs (by rfl) (FieldS.owns (FieldS.alloc _ (by assumption))) ⟨_, 0, none⟩ 1 1 [.string (⟨#[116]⟩ ++ ⟨Z.toArray⟩), .int .i64 cl, .int .i64 (sd + 1)] (by rfl) (by rfl) (World.news_of_block (cs := #[.string (⟨#[116]⟩ ++ ⟨Z.toArray⟩), .int .i64 cl, .int .i64 (sd + 1)]) (t := 86) (fr := (0, 0)) (heap_alloc_new _ _)) (by intro u hu; simp at hu; rcases hu with rfl | rfl | rfl <;> rfl) (by omega) (by unfold maxLen; omega) (by omega) (FieldS.size (FieldS.alloc _ (by assumption))) _ rfl ?_; intro gg cc wc oc gc hat hlt2))
      have HS := Lib.hid (FieldS.push gc oc sb)
      clear s0 sa sb cb gb gc oc hat hlt2 ba
      generalize hv : Value.slice (some ⟨gg, 0, none⟩) (j + 1) cc = vv at *
      clear hv
      go_wp2
      go_roundw
      case rel =>
        have hl := HS.out.2.1.1
        simp only [List.length_append, List.length_cons, List.length_nil] at hl
        refine ⟨j + 1, _, fun t => if t = j then ⟨⟨#[116]⟩ ++ ⟨Z.toArray⟩, cl, sd + 1⟩ else G t, by omega, by go_num, fun i hi => ?_, fun t ht => ?_, HS.out⟩
        · by_cases hij : i = j
          · subst hij
            simp only [if_true]
            exact ⟨by unfold madeNm; rw [← HZ.out], ⟨by omega, by omega⟩, by rw [HSD.out]⟩
          · simp only [hij, if_false]
            exact hG.out i (by omega)
        · by_cases hij : t = j
          · subst hij
            simp only [if_true]
            have e : xs.length = t * 3 := by omega
            refine ⟨?_, ?_, ?_⟩
            · rw [List.getElem?_append_right (by omega), show t * 3 - xs.length = 0 by omega]; rfl
            · rw [List.getElem?_append_right (by omega), show t * 3 + 1 - xs.length = 1 by omega]; rfl
            · rw [List.getElem?_append_right (by omega), show t * 3 + 2 - xs.length = 2 by omega]; rfl
          · simp only [hij, if_false]
            obtain ⟨h1, h2, h3⟩ := hxs.out t (by omega)
            exact ⟨by rw [List.getElem?_append_left (by omega)]; exact h1, by rw [List.getElem?_append_left (by omega)]; exact h2, by rw [List.getElem?_append_left (by omega)]; exact h3⟩
      case measure => simp [RowKit.intOf]; omega
    · obtain rfl : j = n := by omega
      clear FI L1
      go_wp2
      go_ret
      exact ⟨_, G, turn, xs, rfl, hturn, hG.out, hS.2.1, hxs.out, hS.1, hS.2.2.1⟩

def FieldIs (w : World) (n : Nat) (G : Nat → TeamD) (e : Ending) (w' : World) : Prop :=
  ∃ v, e = .returned v ∧ TeamRow w' v n G ∧ Below w.heap.size w w'
def FieldGood (n : Nat) (G : Nat → TeamD) : Prop := (2 ≤ n ∧ n ≤ 6) ∧ (∃ turn, turn < n ∧ MadeF n turn G n) ∧ ∀ i, n ≤ i → G i = ⟨ByteArray.empty, 0, 0⟩
end Go.Proofs.Ytmhkkdnopcdibaa
set_option linter.unusedVariables false
namespace Go.Proofs.Ytmhkkdnopcdibaa
open Go.RowKit

theorem owns_low {w : World} {base : Nat} {e : TypeId} {size n : Nat} {v : Value} {xs : List Value} (h : w.ownsRow base e size v n xs) {B : Nat} (j : Nat) (u : Value) (hB : B < base) : (w.setCell ⟨B, j, none⟩ u).ownsRow base e size v n xs :=
  ownsRow_setCell_other h (fun e => by have := (h.lt B e).1; omega) u
def BookMem (w : World) (base : Nat) (vf vl vg vfa vta : Value) (b : BookD) : Prop :=
  w.ownsRow base 86 3 vf b.nf (flatR (fun i => (b.f i).cells) b.nf) ∧ w.ownsRow base 3 1 vl b.nl (flatR (fun i => [.int .i64 (b.l i)]) b.nl) ∧ w.ownsRow base 187 5 vg b.m (flatR (fun i => (b.g i).cells) b.m) ∧
    w.ownsRow base 3 1 vfa b.nfa (flatR (fun i => [.int .i64 (b.fa i)]) b.nfa) ∧ w.ownsRow base 3 1 vta b.nta (flatR (fun i => [.int .i64 (b.ta i)]) b.nta)
def bookS (b : BookD) : Prop := b.nf ≤ 1048576 ∧ b.nl ≤ 1048576 ∧ b.m ≤ 1048576 ∧ b.nfa ≤ 1048576 ∧ b.nta ≤ 1048576
theorem row_flat {k : Nat} {w : World} {base : Nat} {e : TypeId} {v : Value} {n : Nat} {g : Nat → List Value} (h : w.ownsRow base e k v n (flatR g n)) (hn : n ≤ 1048576) (hg : ∀ i, (g i).length = k) : RecRow k w v n g :=
  RecRow.of_owns h (by omega) (flatR_cells k g n fun i _ => hg i) (fun i _ => by rw [hg i]; exact Nat.le_refl _)
theorem BookMem.row {w : World} {base : Nat} {vf vl vg vfa vta : Value} {b : BookD} (h : BookMem w base vf vl vg vfa vta b) (hs : bookS b) : BookRow w vf vl vg vfa vta b :=
  ⟨(row_flat h.1 hs.1 fun _ => rfl).teams, (row_flat h.2.1 hs.2.1 fun _ => rfl).ints, row_flat h.2.2.1 hs.2.2.1 fun _ => rfl, (row_flat h.2.2.2.1 hs.2.2.2.1 fun _ => rfl).ints, (row_flat h.2.2.2.2 hs.2.2.2.2 fun _ => rfl).ints⟩
theorem BookMem.touch {w w' : World} {base lo hi : Nat} {vf vl vg vfa vta : Value} {b : BookD} (h : BookMem w base vf vl vg vfa vta b) (t : Touch lo hi w w') (ho : hi ≤ base) : BookMem w' base vf vl vg vfa vta b :=
  ⟨owns_touch h.1 t (InW.of_owns h.1) (.inr ho), owns_touch h.2.1 t (InW.of_owns h.2.1) (.inr ho), owns_touch h.2.2.1 t (InW.of_owns h.2.2.1) (.inr ho), owns_touch h.2.2.2.1 t (InW.of_owns h.2.2.2.1) (.inr ho), owns_touch h.2.2.2.2 t (InW.of_owns h.2.2.2.2) (.inr ho)⟩
theorem BookMem.mono {w : World} {base base' : Nat} {vf vl vg vfa vta : Value} {b : BookD} (h : BookMem w base vf vl vg vfa vta b) (hb : base' ≤ base) : BookMem w base' vf vl vg vfa vta b :=
  ⟨owns_mono h.1 hb, owns_mono h.2.1 hb, owns_mono h.2.2.1 hb, owns_mono h.2.2.2.1 hb, owns_mono h.2.2.2.2 hb⟩
theorem BookMem.below {w w' : World} {base B : Nat} {vf vl vg vfa vta : Value} {b : BookD} (h : BookMem w base vf vl vg vfa vta b) (hb : Below B w w') (hB : w.heap.size ≤ B) : BookMem w' base vf vl vg vfa vta b :=
  ⟨owns_below h.1 hb hB, owns_below h.2.1 hb hB, owns_below h.2.2.1 hb hB, owns_below h.2.2.2.1 hb hB, owns_below h.2.2.2.2 hb hB⟩
theorem BookMem.form {w : World} {base : Nat} {vf vl vg vfa vta : Value} {b : BookD} (h : BookMem w base vf vl vg vfa vta b) : ∃ fa fc la lc ga gc qa qc ta tc, vf = .slice fa b.nf fc ∧ vl = .slice la b.nl lc ∧ vg = .slice ga b.m gc ∧ vfa = .slice qa b.nfa qc ∧ vta = .slice ta b.nta tc := by
  obtain ⟨fa, fc, h1⟩ := owns_form h.1
  obtain ⟨la, lc, h2⟩ := owns_form h.2.1
  obtain ⟨ga, gc, h3⟩ := owns_form h.2.2.1
  obtain ⟨qa, qc, h4⟩ := owns_form h.2.2.2.1
  obtain ⟨ta, tc, h5⟩ := owns_form h.2.2.2.2
  exact ⟨fa, fc, la, lc, ga, gc, qa, qc, ta, tc, h1, h2, h3, h4, h5⟩
def BookMade (w : World) (b : BookD) (e : Ending) (w' : World) : Prop :=
  ∃ vf vl vg vfa vta, e = .returned (.agg #[vf, .int .i64 b.win, .int .i64 b.draw, .int .i64 b.loss, vl, .bool b.again, vg, vfa, vta]) ∧ BookMem w' w.heap.size vf vl vg vfa vta b ∧ Below w.heap.size w w'
end Go.Proofs.Ytmhkkdnopcdibaa
set_option linter.unusedVariables false
namespace Go.Proofs.Ytmhkkdnopcdibaa
open Go.RowKit

def RsnD.vals (r : RsnD) (v : Value) : Array Value := #[.int .i64 r.key, v, .int .i64 r.first, .int .i64 r.other]
def ReasonL (w : World) (r : Option RsnD) (e : Ending) (w' : World) : Prop :=
  ∃ v, e = .returned (.tuple #[.agg ((r.getD rsn0).vals v), .bool r.isSome]) ∧ w'.ownsRow w.heap.size 3 1 v (r.getD rsn0).grp.length ((r.getD rsn0).grp.map (Value.int .i64)) ∧ Below w.heap.size w w'
theorem put_cell {B : Nat} {p : Addr} {v : Value} (hp : p.block ≠ B) : ∀ (vs : List Value) (o : Nat) (w : World), w.cell? p = some v → (putCs w B o vs).cell? p = some v
  | [], _, _, h => h
  | u :: vs, o, w, h => put_cell hp vs (o + 1) _ ((World.cell?_of_block (w := w) (w' := w.setCell ⟨B, o, none⟩ u) (a := p) (Below.heap_setCell w ⟨B, o, none⟩ u p.block hp)).trans h)
theorem BkAt.put {w0 : World} {B C : Nat} {fa : Option Addr} {fc : Nat} {la : Option Addr} {lc : Nat} {ga : Option Addr} {gc : Nat} {qa : Option Addr} {qc : Nat} {ta : Option Addr} {tc : Nat} {b : BookD} (hC : B ≠ C) (h0 : w0.heap.size ≤ C) :
    ∀ (vs : List Value) (o : Nat) (w : World), BkAt w0 w B fa fc la lc ga gc qa qc ta tc b → BkAt w0 (putCs w C o vs) B fa fc la lc ga gc qa qc ta tc b
  | [], _, _, h => h
  | u :: vs, o, w, h => BkAt.put hC h0 vs (o + 1) _ (h.store (p := ⟨C, o, none⟩) hC h0 u)
theorem owns_puts {w : World} {base B : Nat} {e : TypeId} {size n : Nat} {v : Value} {xs : List Value} (hB : B < base) : ∀ (vs : List Value) (o : Nat) (w : World), w.ownsRow base e size v n xs → (putCs w B o vs).ownsRow base e size v n xs
  | [], _, _, h => h
  | u :: vs, o, w, h => owns_puts (w := w) hB vs (o + 1) _ (owns_low h o u hB)
theorem valsL_get {V : Nat → Int} {k n : Nat} (h : k < n) : getI (valsL V n) k = V k := by unfold valsL getI; simp [h]
theorem valsL_len {V : Nat → Int} {n : Nat} : (valsL V n).length = n := by unfold valsL; simp
theorem l02Has_mem (v : Value) (p : List Int) (x : Int) (R : Bool) (w : World) (hR : R = true ↔ x ∈ p) (h : IntRow w v p.length (getI p)) :
    Calls Try.prog 60 #[v, .int .i64 x] w fun e w' => e = .returned (.bool R) ∧ w = w' := by
  cases R with
  | true => exact l02Has_yes v _ _ x w h ((hasP_mem p x).2 (hR.1 rfl))
  | false => exact l02Has_no v _ _ x w h (fun hh => by have := hR.2 ((hasP_mem p x).1 hh); cases this)
end Go.Proofs.Ytmhkkdnopcdibaa
