/-
  Contracts of the text utilities that only look at a string: IsDigits, IsName (program and model), and their helpers.
-/
import Derived.Test.YtoingkchjiipgaaProg
import Derived.WalkKit
import Derived.BigQuiet
import Derived.Deep.QuietTactic
import Derived.Lib.Hide
import Derived.Outline
set_option linter.unusedVariables false
namespace Go.Proofs.Ytoingkchjiipgaa
open Go.RowKit

/-! plain facts on bytes -/
def dgB (r : Int) : Bool := decide (48 ≤ r ∧ r ≤ 57)
def smB (r : Int) : Bool := decide (97 ≤ r ∧ r ≤ 122)
theorem dgB_mk {r : Int} (h : 48 ≤ r ∧ r ≤ 57) : dgB r = true := by simp [dgB, h]
theorem dgB_no {r : Int} (h : ¬ (48 ≤ r ∧ r ≤ 57)) : dgB r = false := by simp only [dgB, decide_eq_false_iff_not]; exact h
theorem dgB_yes {r : Int} (h : dgB r = true) : 48 ≤ r ∧ r ≤ 57 := by simpa [dgB] using h
theorem dgB_not {r : Int} (h : dgB r = false) : ¬ (48 ≤ r ∧ r ≤ 57) := by simpa only [dgB, decide_eq_false_iff_not] using h
theorem smB_mk {r : Int} (h : 97 ≤ r ∧ r ≤ 122) : smB r = true := by simp [smB, h]
theorem smB_no {r : Int} (h : ¬ (97 ≤ r ∧ r ≤ 122)) : smB r = false := by simp only [smB, decide_eq_false_iff_not]; exact h
theorem smB_yes {r : Int} (h : smB r = true) : 97 ≤ r ∧ r ≤ 122 := by simpa [smB] using h
theorem smB_not {r : Int} (h : smB r = false) : ¬ (97 ≤ r ∧ r ≤ 122) := by simpa only [smB, decide_eq_false_iff_not] using h

/-- the byte at a place, as a number -/
def bat (s : ByteArray) (k : Nat) : Nat := (s.get! k).toNat
theorem bat_of (s : ByteArray) (k : Nat) (h : k < s.size) : bat s k = (s[k]'h).toNat := by
  have := get_at s k h
  simp only [Nat.add_zero] at this
  simp [bat, this]
theorem bat_lt (s : ByteArray) (k : Nat) : bat s k < 256 := (s.get! k).toNat_lt
theorem decode_low (s : ByteArray) (pos : Nat) (h : pos < s.size) (hl : bat s pos < 128) : Utf8.decode s pos = (bat s pos, 1) := by
  rw [bat_of s pos h] at *
  exact decode_ascii s pos h (by omega)
theorem decode_hi (s : ByteArray) (pos : Nat) (h : pos < s.size) (hl : ¬ bat s pos < 128) : 128 ≤ (Utf8.decode s pos).1 ∧ 1 ≤ (Utf8.decode s pos).2 := by
  rw [bat_of s pos h] at *
  exact decode_high s pos h (by omega)

/-- a rune that does not begin below 128 covers no byte below 128 and stays inside s -/
theorem decode_cont (s : ByteArray) (pos : Nat) (h : pos < s.size) (hl : ¬ bat s pos < 128) :
    1 ≤ (Utf8.decode s pos).2 ∧ pos + (Utf8.decode s pos).2 ≤ s.size ∧ ∀ j, j < (Utf8.decode s pos).2 → 128 ≤ bat s (pos + j) := by
  have e0 : (s.get! (pos + 0)).toNat = bat s pos := rfl
  have one : ∀ j, j < 1 → 128 ≤ bat s (pos + j) := fun j hj => by
    obtain rfl : j = 0 := by omega
    simpa using hl
  have fin1 : ∀ x : Nat × Nat, x.2 = 1 → 1 ≤ x.2 ∧ pos + x.2 ≤ s.size ∧ ∀ j, j < x.2 → 128 ≤ bat s (pos + j) := fun x hx => by
    rw [hx]; exact ⟨Nat.le_refl _, by omega, one⟩
  simp only [Utf8.decode, e0, if_neg hl]
  by_cases c1 : (decide (pos + 1 < s.size) && (s.get! (pos + 1)).toNat / 64 == 2) = true
  · simp only [Bool.and_eq_true, decide_eq_true_eq, beq_iff_eq] at c1
    have b1 : 128 ≤ bat s (pos + 1) := by show 128 ≤ (s.get! (pos + 1)).toNat; omega
    have fin2 : ∀ x : Nat × Nat, x.2 = 2 → 1 ≤ x.2 ∧ pos + x.2 ≤ s.size ∧ ∀ j, j < x.2 → 128 ≤ bat s (pos + j) := fun x hx => by
      rw [hx]; refine ⟨by omega, by omega, fun j hj => ?_⟩
      rcases (show j = 0 ∨ j = 1 by omega) with rfl | rfl
      · exact one 0 (by omega)
      · exact b1
    by_cases c2 : (decide (pos + 2 < s.size) && (s.get! (pos + 2)).toNat / 64 == 2) = true
    · simp only [Bool.and_eq_true, decide_eq_true_eq, beq_iff_eq] at c2
      have b2 : 128 ≤ bat s (pos + 2) := by show 128 ≤ (s.get! (pos + 2)).toNat; omega
      have fin3 : ∀ x : Nat × Nat, x.2 = 3 → 1 ≤ x.2 ∧ pos + x.2 ≤ s.size ∧ ∀ j, j < x.2 → 128 ≤ bat s (pos + j) := fun x hx => by
        rw [hx]; refine ⟨by omega, by omega, fun j hj => ?_⟩
        rcases (show j = 0 ∨ j = 1 ∨ j = 2 by omega) with rfl | rfl | rfl
        · exact one 0 (by omega)
        · exact b1
        · exact b2
      by_cases c3 : (decide (pos + 3 < s.size) && (s.get! (pos + 3)).toNat / 64 == 2) = true
      · simp only [Bool.and_eq_true, decide_eq_true_eq, beq_iff_eq] at c3
        have b3 : 128 ≤ bat s (pos + 3) := by show 128 ≤ (s.get! (pos + 3)).toNat; omega
        have fin4 : ∀ x : Nat × Nat, x.2 = 4 → 1 ≤ x.2 ∧ pos + x.2 ≤ s.size ∧ ∀ j, j < x.2 → 128 ≤ bat s (pos + j) := fun x hx => by
          rw [hx]; refine ⟨by omega, by omega, fun j hj => ?_⟩
          rcases (show j = 0 ∨ j = 1 ∨ j = 2 ∨ j = 3 by omega) with rfl | rfl | rfl | rfl
          · exact one 0 (by omega)
          · exact b1
          · exact b2
          · exact b3
        repeat' split
        all_goals first | exact fin1 _ rfl | exact fin2 _ rfl | exact fin3 _ rfl | exact fin4 _ rfl
      · simp only [Bool.not_eq_true] at c3
        simp only [c3, Bool.and_false]
        repeat' split
        all_goals first | exact fin1 _ rfl | exact fin2 _ rfl | exact fin3 _ rfl | (exfalso; simp_all; done)
    · simp only [Bool.not_eq_true] at c2
      simp only [c2, Bool.and_false, Bool.false_and]
      repeat' split
      all_goals first | exact fin1 _ rfl | exact fin2 _ rfl | (exfalso; simp_all; done)
  · simp only [Bool.not_eq_true] at c1
    simp only [c1, Bool.and_false, Bool.false_and]
    repeat' split
    all_goals first | exact fin1 _ rfl | (exfalso; simp_all; done)

/-- all bytes of s are digits, and there is one -/
def digits (s : ByteArray) : Bool := decide (0 < s.size ∧ ∀ k, k < s.size → dgB (bat s k) = true)
theorem digits_no (s : ByteArray) (k : Nat) (h : k < s.size) (hd : dgB (bat s k) = false) : digits s = false := by
  simp only [digits, decide_eq_false_iff_not]
  rintro ⟨_, h2⟩
  rw [h2 k h] at hd
  cases hd
theorem digits_all (s : ByteArray) (h0 : 0 < s.size) (hd : ∀ k, k < s.size → dgB (bat s k) = true) : digits s = true := by
  simp only [digits, decide_eq_true_eq]
  exact ⟨h0, hd⟩
theorem digits_nil (s : ByteArray) (h0 : ¬ 0 < s.size) : digits s = false := by
  simp only [digits, decide_eq_false_iff_not]
  exact fun h => h0 h.1

theorem emp_no (s : ByteArray) (h : 0 < s.size) : s.toList.isEmpty = false := by
  rw [ByteArray.toList_eq, List.isEmpty_eq_false_iff]
  intro he
  have : s.data.toList.length = 0 := by rw [he]; rfl
  rw [Array.length_toList] at this
  have h2 : s.size = s.data.size := rfl
  omega
theorem emp_yes (s : ByteArray) (h : ¬ 0 < s.size) : s.toList.isEmpty = true := by
  rw [ByteArray.toList_eq, List.isEmpty_iff]
  have h2 : s.size = s.data.size := rfl
  have : s.data.toList.length = 0 := by rw [Array.length_toList]; omega
  exact List.eq_nil_of_length_eq_zero this

/-! the walks -/
/-! ### IsName -/
/-- may this byte stand at place k of a name? -/
def nameAt (k b : Nat) : Bool := smB b || (decide (k ≠ 0) && dgB b)
theorem nameAt_no {k b : Nat} (h1 : ¬ (97 ≤ b ∧ b ≤ 122)) (h2 : k = 0 ∨ ¬ (48 ≤ b ∧ b ≤ 57)) : nameAt k b = false := by
  unfold nameAt
  rw [smB_no (by omega)]
  rcases h2 with h2 | h2
  · simp [h2]
  · rw [dgB_no (by omega)]; simp
theorem nameAt_small {k b : Nat} (h : 97 ≤ b ∧ b ≤ 122) : nameAt k b = true := by
  unfold nameAt; rw [smB_mk (by omega)]; simp
theorem nameAt_dig {k b : Nat} (h : 48 ≤ b ∧ b ≤ 57) (hk : k ≠ 0) : nameAt k b = true := by
  unfold nameAt; rw [dgB_mk (by omega)]; simp [hk]
theorem nameAt_low {k b : Nat} (h : nameAt k b = true) : b < 128 := by
  unfold nameAt at h
  simp only [Bool.or_eq_true, Bool.and_eq_true] at h
  rcases h with h | ⟨_, h⟩
  · have := smB_yes h; omega
  · have := dgB_yes h; omega
def nameB (s : ByteArray) : Bool := decide (1 ≤ s.size ∧ s.size ≤ 8 ∧ ∀ k, k < s.size → nameAt k (bat s k) = true)
theorem nameB_no (s : ByteArray) (k : Nat) (h : k < s.size) (hd : nameAt k (bat s k) = false) : nameB s = false := by
  simp only [nameB, decide_eq_false_iff_not]
  rintro ⟨_, _, h2⟩
  rw [h2 k h] at hd
  cases hd
theorem nameB_all (s : ByteArray) (h0 : 1 ≤ s.size) (h8 : s.size ≤ 8) (hd : ∀ k, k < s.size → nameAt k (bat s k) = true) : nameB s = true := by
  simp only [nameB, decide_eq_true_eq]
  exact ⟨h0, h8, hd⟩
theorem nameB_len (s : ByteArray) (h0 : ¬ (1 ≤ s.size ∧ s.size ≤ 8)) : nameB s = false := by
  simp only [nameB, decide_eq_false_iff_not]
  exact fun h => h0 ⟨h.1, h.2.1⟩

theorem l01In_yes (n lo hi : Int) (w : World) (h : lo ≤ n ∧ n ≤ hi) :
    Calls Try.prog 59 #[.int .i64 n, .int .i64 lo, .int .i64 hi] w fun e w' => e = .returned (.bool true) ∧ w = w' := by
  have g1 : decide (lo ≤ n) = true := decide_eq_true h.1
  have g2 : decide (n ≤ hi) = true := decide_eq_true h.2
  clear h
  go_enter Try.func59, Try.ntmps59
  go_wp2
  go_ret
  exact ⟨rfl, rfl⟩

theorem l01In_no (n lo hi : Int) (w : World) (h : ¬ (lo ≤ n ∧ n ≤ hi)) :
    Calls Try.prog 59 #[.int .i64 n, .int .i64 lo, .int .i64 hi] w fun e w' => e = .returned (.bool false) ∧ w = w' := by
  by_cases h1 : lo ≤ n
  · have g1 : decide (lo ≤ n) = true := decide_eq_true h1
    have g2 : decide (n ≤ hi) = false := decide_eq_false fun h2 => h ⟨h1, h2⟩
    clear h
    go_enter Try.func59, Try.ntmps59
    go_wp2
    go_ret
    exact ⟨rfl, rfl⟩
  · have g1 : decide (lo ≤ n) = false := decide_eq_false h1
    clear h
    go_enter Try.func59, Try.ntmps59
    go_wp2
    go_ret
    exact ⟨rfl, rfl⟩

end Go.Proofs.Ytoingkchjiipgaa
