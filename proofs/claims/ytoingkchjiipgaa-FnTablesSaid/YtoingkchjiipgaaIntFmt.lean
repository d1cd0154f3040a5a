/-
  Contracts of FormatInt, program and model.
-/
import Derived.Test.YtoingkchjiipgaaKit
import Derived.Test.YtoingkchjiipgaaNum
import Derived.Test.YtoingkchjiipgaaProg
import Derived.Laws.BytesArg
import Derived.Deep.RegionWith
import Derived.WalkSmall
import Derived.Sort.Grow
import Derived.KernelRfl
import Derived.Outline
set_option linter.unusedVariables false
namespace Go.Proofs.Ytoingkchjiipgaa
open Go.RowKit
open Go.Sort (grow)

theorem one_byte {P : Program} (w : World) (src dst e : TypeId) (hs : P.underlying src = some (.slice e)) (he : P.underlying e = some (.int .u8)) (hd : P.underlying dst = some .string) (v : Int) :
    (convert src dst (.slice (some ⟨w.heap.size, 0, none⟩) 1 1)).run P (w.alloc (.cells #[.int .u8 v] e)) = .ok (.string ⟨[UInt8.ofNat v.toNat].toArray⟩) (w.alloc (.cells #[.int .u8 v] e)) := by
  have h := run_convert_bytes_arg (P := P) (w.alloc (.cells #[.int .u8 v] e)) src e hs he w.heap.size 0 1 1 [v] rfl (fun i hi => by
    obtain rfl : i = 0 := by omega
    simp) dst hd
  rw [h]
  rfl
theorem one_byte_at {P : Program} (src dst e : TypeId) (hs : P.underlying src = some (.slice e)) (he : P.underlying e = some (.int .u8)) (hd : P.underlying dst = some .string) (v : Int) (B : Nat) (W : World)
    (hc : W.cell? ⟨B, 0, none⟩ = some (.int .u8 v)) :
    (convert src dst (.slice (some ⟨B, 0, none⟩) 1 1)).run P W = .ok (.string ⟨[UInt8.ofNat v.toNat].toArray⟩) W := by
  have h := run_convert_bytes_arg (P := P) W src e hs he B 0 1 1 [v] rfl (fun i hi => by
    obtain rfl : i = 0 := by omega
    simpa using hc) dst hd
  rw [h]
  rfl
theorem kept_cell1 {w w1 : World} {v : Value} {e : TypeId} (b : Below (w.drew.alloc (.cells #[v] e)).heap.size (w.drew.alloc (.cells #[v] e)) w1) : w1.cell? ⟨w.heap.size, 0, none⟩ = some v := by
  rw [b.cell (p := ⟨w.heap.size, 0, none⟩) (by simp)]
  exact World.cell?_alloc_mark w.drew #[v] e (0, 0) 0
theorem kept_cell2 {w w1 : World} {v : Value} {e : TypeId} (b : Below (w.alloc (.cells #[v] e)).drew.heap.size (w.alloc (.cells #[v] e)).drew w1) : w1.cell? ⟨w.heap.size, 0, none⟩ = some v := by
  rw [b.cell (p := ⟨w.heap.size, 0, none⟩) (by simp)]
  exact World.cell?_alloc_mark w #[v] e (0, 0) 0
theorem cats (x y : List UInt8) : (ByteArray.mk x.toArray ++ ByteArray.mk y.toArray) = ByteArray.mk (x ++ y).toArray := ByteArray.mk_append_mk x y

theorem of48 (x : Nat) : UInt8.ofNat (48 + x) = 48 + UInt8.ofNat x := by simp

set_option maxRecDepth 100000 in
theorem formatInt_nat (m : Nat) (w : World) (hm : m ≤ 9223372036854775807) :
    Calls Try.prog 81 #[.int .i64 (m : Int)] w fun e w' => e = .returned (.string ⟨(Lib.decDigits m).toArray⟩) ∧ Below w.heap.size w w' := by
  go_enter Try.func81, Try.ntmps81
  go_wp2_with fail
  go_loopw [0, 3] (fun nv sv wr => ∃ (j : Nat) (l : List UInt8), nv = .int .i64 (j : Int) ∧ sv = .string ⟨l.toArray⟩ ∧ 2 * l.length + j ≤ m ∧ Hid (Lib.decDigits j ++ l = Lib.decDigits m) ∧ Below w.heap.size w wr) (fun nv _ _ => (intOf nv).toNat)
  case atStart => exact ⟨m, [], rfl, rfl, by simp, by simp [Hid], Below.refl _ _⟩
  case round =>
    obtain ⟨j, l, rfl, rfl, hl, hd, hb⟩ := hrel
    have hz : l.toArray.size ≤ 4611686018427387904 := by simp; omega
    by_cases h9 : 9 < j
    · have hcv := one_byte (P := Try.prog) wr 22 9 5 Try.underlying22 Try.underlying5 Try.underlying9 (48 + (j : Int) % 10)
      have Hd : Hid (Lib.decDigits (j / 10) ++ ((48 + UInt8.ofNat (j % 10)) :: l) = Lib.decDigits m) := by
        show _ = _; rw [← hd.out, decDigits_step j (by omega), of48]; simp
      go_wp2_with fail
      go_roundw
      case rel =>
        exact ⟨j / 10, (48 + UInt8.ofNat (j % 10)) :: l, by go_num, congrArg Value.string (cats [48 + UInt8.ofNat (j % 10)] l), by simp; omega, Hd.out, hb.alloc hb.size _⟩
      case measure => simp [intOf]; omega
    · have hcv := one_byte (P := Try.prog) wr 22 9 5 Try.underlying22 Try.underlying5 Try.underlying9 (48 + (j : Int))
      have Hd : Hid (((48 + UInt8.ofNat j) :: l) = Lib.decDigits m) := by
        show _ = _; rw [← hd.out, Lib.decDigits_one (show j < 10 by omega), of48]; rfl
      go_wp2_with fail
      go_ret
      exact ⟨by rw [← Hd.out]; exact congrArg (fun x => Ending.returned (Value.string x)) (cats [48 + UInt8.ofNat j] l), hb.alloc hb.size _⟩

set_option maxRecDepth 100000 in
theorem formatInt_neg (m : Nat) : ∀ w : World, 1 ≤ m → m ≤ 9223372036854775808 →
    Calls Try.prog 81 #[.int .i64 (-(m : Int))] w fun e w' => e = .returned (.string ⟨(45 :: Lib.decDigits m).toArray⟩) ∧ Below w.heap.size w w' := by
  induction m using Nat.strongRecOn with
  | _ m ih =>
  intro w h1 hm
  by_cases h9 : m < 10
  · have hcv := one_byte (P := Try.prog) w 22 9 5 Try.underlying22 Try.underlying5 Try.underlying9 (48 + (m : Int))
    have g1 : (-((m : Int) / 10) == 0) = true := by
      have : -((m : Int) / 10) = 0 := by omega
      simp [this]
    have hd := Lib.hid (Lib.decDigits_one h9)
    go_enter Try.func81, Try.ntmps81
    go_wp2_with fail
    go_ret
    refine ⟨?_, (Below.refl _ _).alloc (Nat.le_refl _) _⟩
    rw [hd.out, of48]
    exact congrArg (fun x => Ending.returned (Value.string x)) (cats [45] [48 + UInt8.ofNat m])
  · have g1 : (-((m : Int) / 10) == 0) = false := by
      have : -((m : Int) / 10) ≠ 0 := by omega
      simp; omega
    have ih' : Hid (∀ w : World, Calls Try.prog 81 #[.int .i64 (-((m : Int) / 10))] w fun e w' => e = .returned (.string ⟨(45 :: Lib.decDigits (m / 10)).toArray⟩) ∧ Below w.heap.size w w') := fun w => by
      have := ih (m / 10) (by omega) w (by omega) (by omega)
      rwa [show (-(((m / 10 : Nat)) : Int)) = -((m : Int) / 10) by omega] at this
    have Hd : Hid (Lib.decDigits m = Lib.decDigits (m / 10) ++ [UInt8.ofNat (48 + m % 10)]) := decDigits_step m (by omega)
    have hlen : (Lib.decDigits (m / 10)).length ≤ 19 := by rw [Lib.decDigits_length]; exact nDigits_le _ (by omega)
    clear ih
    generalize Lib.decDigits (m / 10) = D at *
    have e1 : IntKind.i64.wrap (-((m : Int) / 10)) = -((m : Int) / 10) := IntWalk.i64_in _ (by omega)
    have e2 : (m : Int).tmod 10 = (m : Int) % 10 := Int.tmod_eq_emod_of_nonneg (by omega)
    have e3 : IntKind.i64.wrap (48 + (m : Int) % 10) = 48 + (m : Int) % 10 := IntWalk.i64_in _ (by omega)
    have e4 : IntKind.u8.wrap (48 + (m : Int) % 10) = 48 + (m : Int) % 10 := by
      simp [IntKind.wrap, IntKind.bits, IntKind.signed]; omega
    have hcv := fun B W hc => one_byte_at (P := Try.prog) 22 9 5 Try.underlying22 Try.underlying5 Try.underlying9 (48 + (m : Int) % 10) B W hc
    go_enter Try.func81, Try.ntmps81
    go_wp2_with fail
    go_region_with (go_at_call 81; refine (ih'.out _).mono ?_; rintro e w1 ⟨rfl, b1⟩; first | (have hc1 := kept_cell1 b1) | (have hc1 := kept_cell2 b1) | skip)
    all_goals
      go_wp2_with fail
      go_ret
      refine ⟨by rw [Hd.out, of48]; exact congrArg (fun x => Ending.returned (Value.string x)) (cats (45 :: D) [48 + UInt8.ofNat (m % 10)]), ?_⟩
      have hs := b1.size
      first
        | exact ((Below.refl _ _).drew.trans b1).alloc hs _
        | exact ((Below.refl _ w).drew.alloc (Nat.le_refl _) _).trans (b1.mono (by simp))
        | exact (((Below.refl _ w).alloc (Nat.le_refl _) _).drew).trans (b1.mono (by simp))

/-- the model's FormatInt at every int -/
theorem formatInt_spec (n : Int) (w : World) (h : isInt n) :
    Calls Try.prog 81 #[.int .i64 n] w fun e w' => e = .returned (.string ⟨(Lib.itoa n).toArray⟩) ∧ Below w.heap.size w w' := by
  unfold isInt at h
  by_cases hp : n < 0
  · have := formatInt_neg n.natAbs w (by omega) (by omega)
    rw [show (-((n.natAbs : Nat) : Int)) = n by omega, ← itoa_neg n hp] at this
    exact this
  · have := formatInt_nat n.toNat w (by omega)
    rw [show ((n.toNat : Nat) : Int) = n by omega, ← itoa_pos n hp] at this
    exact this
theorem grow_below (w : World) (k : Nat) (os : Array Obj) : Below w.heap.size w (grow (w.drewN k) os) := by
  refine ⟨rfl, rfl, rfl, by simp [grow], fun i hi => ?_⟩
  show (w.heap ++ os)[i]? = w.heap[i]?
  rw [Array.getElem?_append_left hi]
end Go.Proofs.Ytoingkchjiipgaa
