/-
  Contracts of PadZeros, program and model.
-/
import Derived.Test.YtgdahjcngkokfaaJoin
set_option linter.unusedVariables false
namespace Go.Proofs.Ytgdahjcngkokfaa
open Go.RowKit

/-- s behind j bytes 0 -/
def pad (s : ByteArray) (j : Nat) : ByteArray := ⟨(List.replicate j 48).toArray⟩ ++ s
theorem pad_zero (s : ByteArray) : pad s 0 = s := by
  apply ByteArray.ext
  simp [pad, ByteArray.data_append]
theorem pad_succ (s : ByteArray) (j : Nat) : (ByteArray.mk #[48]) ++ pad s j = pad s (j + 1) := by
  apply ByteArray.ext
  apply Array.ext'
  simp [pad, ByteArray.data_append, List.replicate_succ]
def strLen : Value → Nat | .string t => t.size | _ => 0
def padded (s : ByteArray) (n : Int) : ByteArray := if 2000 < n then s else pad s (n.toNat - s.size)
theorem padded_big (s : ByteArray) (n : Int) (h : 2000 < n) : padded s n = s := by simp [padded, h]
theorem padded_none (s : ByteArray) (n : Int) (h : n ≤ s.size) : padded s n = s := by
  unfold padded
  split
  · rfl
  · rw [show n.toNat - s.size = 0 by omega, pad_zero]
theorem padded_some (s : ByteArray) (n : Nat) (h : n ≤ 2000) : padded s n = pad s (n - s.size) := by
  unfold padded
  rw [if_neg (by omega)]
  rfl
theorem repeatL_zeros : ∀ c, Lib.repeatL [48] c = List.replicate c 48
  | 0 => rfl
  | c + 1 => by rw [Lib.repeatL, repeatL_zeros c]; rfl

theorem padZeros_spec (s : ByteArray) (n : Int) (w : World) (hs : s.size ≤ 1048576) :
    Calls Try.prog 24 #[.string s, .int .i64 n] w fun e w' => e = .returned (.string (padded s n)) ∧ w = w' := by
  by_cases hb : 2000 < n
  · have g0 : decide (2000 < n) = true := decide_eq_true hb
    rw [padded_big s n hb]
    go_enter Try.func24, Try.ntmps24
    go_wp2
    go_ret
    exact ⟨rfl, rfl⟩
  have g0 : decide (2000 < n) = false := decide_eq_false hb
  by_cases hn : n ≤ s.size
  · have g1 : decide ((s.size : Int) < n) = false := decide_eq_false (by omega)
    rw [padded_none s n hn]
    go_enter Try.func24, Try.ntmps24
    go_wp2
    refine wp_loop_rounds 1 ?_
    rw [rounds_succ]
    go_wp2
    go_ret
    exact ⟨rfl, rfl⟩
  obtain ⟨m, rfl⟩ : ∃ m : Nat, n = m := ⟨n.toNat, by omega⟩
  rw [padded_some s m (by omega)]
  go_enter Try.func24, Try.ntmps24
  go_wp2
  go_loop [0] (fun x => ∃ (j : Nat) (t : ByteArray), x = .string t ∧ t.size = j + s.size ∧ j + s.size ≤ m ∧ Hid (t = pad s j)) (fun x => m - strLen x)
  case atStart => exact ⟨0, s, rfl, by omega, by omega, (pad_zero s).symm⟩
  case round =>
    obtain ⟨j, t, rfl, hts, hj, ht⟩ := hrel
    have hsz : t.size ≤ 1048576 := by omega
    have Hts := Lib.hid hts
    by_cases hlt : t.size < m
    · have g1 : decide ((t.size : Int) < (m : Int)) = true := decide_eq_true (by omega)
      have Hp : Hid (ByteArray.mk #[48] ++ t = pad s (j + 1)) := by show _ = _; rw [ht.out, pad_succ]
      have Hz : Hid ((ByteArray.mk #[48] ++ t).size = 1 + t.size) := by show _ = _; rw [ByteArray.size_append]; rfl
      clear hts
      go_wp2
      go_round
      case rel => exact ⟨j + 1, _, rfl, by rw [Hz.out, Hts.out]; omega, by have := Hts.out; omega, Hp⟩
      case measure => show _ - (ByteArray.mk #[48] ++ t).size < m - t.size; rw [Hz.out]; omega
    · have g1 : decide ((t.size : Int) < (m : Int)) = false := decide_eq_false (by omega)
      have Hj : Hid (m - s.size = j) := by show _ = _; omega
      clear hts
      go_wp2
      go_ret
      exact ⟨by rw [Hj.out, ← ht.out]; rfl, rfl⟩

theorem padZeros_impl (s : ByteArray) (n : Int) (w : World) (hs : s.size ≤ 1048576) :
    Calls Try.prog 25 #[.string s, .int .i64 n] w fun e w' => e = .returned (.string (padded s n)) ∧ Below w.heap.size w w' := by
  by_cases hn : n ≤ s.size
  · have g1 : decide (n ≤ (s.size : Int)) = true := decide_eq_true (by omega)
    rw [padded_none s n hn]
    go_enter Try.func25, Try.ntmps25
    go_wp2
    go_ret
    exact ⟨rfl, Below.refl _ _⟩
  have g1 : decide (n ≤ (s.size : Int)) = false := decide_eq_false (by omega)
  by_cases hb : 2000 < n
  · have g0 : decide (2000 < n) = true := decide_eq_true hb
    rw [padded_big s n hb]
    go_enter Try.func25, Try.ntmps25
    go_wp2
    go_ret
    exact ⟨rfl, Below.refl _ _⟩
  have g0 : decide (2000 < n) = false := decide_eq_false hb
  obtain ⟨m, hm, rfl⟩ : ∃ m : Nat, 0 < m ∧ n = s.size + m := ⟨n.toNat - s.size, by omega, by omega⟩
  have hr : padded s ((s.size : Int) + (m : Int)) = pad s m := by
    have := padded_some s (s.size + m) (by omega)
    rw [Int.natCast_add] at this
    rw [this, Nat.add_sub_cancel_left]
  rw [hr]
  clear hr
  have C := Lib.hid (fun w => Try.strings_Repeat ⟨#[48]⟩ m w (by omega) (by show 1 * m ≤ _; omega))
  go_enter Try.func25, Try.ntmps25
  go_wp2_with fail
  rw [show ((s.size : Int) + (m : Int) - (s.size : Int)) = (m : Int) by omega]
  refine (C.out _).mono ?_
  rintro e w1 ⟨rfl, b1⟩
  rw [repeatL_zeros]
  have hz : Hid ((⟨(List.replicate m 48).toArray⟩ : ByteArray) ++ s = pad s m) := rfl
  have hzs : (⟨(List.replicate m 48).toArray⟩ : ByteArray).size ≤ 2000 := by show (List.replicate m (48 : UInt8)).toArray.size ≤ _; simp; omega
  generalize (⟨(List.replicate m 48).toArray⟩ : ByteArray) = Z at *
  go_wp2_with fail
  have R : StrRow (w1.alloc (.cells #[.string Z, .string s] 9)) (.slice (some ⟨w1.heap.size, 0, none⟩) 2 2) 2 (getS [Z, s]) := by
    refine .inr ⟨w1.heap.size, 0, 2, rfl, by omega, by omega, fun i hi => ?_, Nat.le_refl _⟩
    rcases (show i = 0 ∨ i = 1 by omega) with rfl | rfl
    · simp [getS]
    · simp [getS]
  have ht : tot (getS [Z, s]) 2 ≤ 1050576 := by show 0 + Z.size + s.size ≤ _; omega
  refine (joined_any _ 2 (getS [Z, s]) ⟨#[]⟩ _ R (by omega) ht (by show 0 ≤ _; omega)).mono ?_
  rintro e w2 ⟨rfl, b2⟩
  have hj : Hid (jn ⟨#[]⟩ (getS [Z, s]) 2 = pad s m) := by
    show _ = _
    rw [jn_more _ _ 1 (by omega), jn_one, ← hz.out]
    apply ByteArray.ext
    simp [getS, ByteArray.data_append]
  have hs1 := b1.size
  replace b2 := (b1.alloc hs1 _).trans (b2.mono (by simp; omega))
  generalize jn ⟨#[]⟩ (getS [Z, s]) 2 = J at *
  go_wp2
  go_ret
  exact ⟨by rw [← hj.out]; rfl, b2⟩
end Go.Proofs.Ytgdahjcngkokfaa
