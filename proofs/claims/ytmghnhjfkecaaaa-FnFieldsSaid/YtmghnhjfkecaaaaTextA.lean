/-
  Contracts of the text utilities that only look at a string: IsDigits, IsName (program and model), and their helpers.
-/
import Derived.Test.YtmghnhjfkecaaaaProg
import Derived.WalkKit
import Derived.BigQuiet
import Derived.Deep.QuietTactic
import Derived.Lib.Hide
import Derived.Outline
set_option linter.unusedVariables false
namespace Go.Proofs.Ytmghnhjfkecaaaa
open Go.RowKit

/-! plain facts on bytes -/
def dgB (r : Int) : Bool := decide (48 ≤ r ∧ r ≤ 57)
def smB (r : Int) : Bool := decide (97 ≤ r ∧ r ≤ 122)
theorem dgB_mk {r : Int} (h : 48 ≤ r ∧ r ≤ 57) : dgB r = true := by simp [dgB, h]
theorem dgB_no {r : Int} (h : ¬ (48 ≤ r ∧ r ≤ 57)) : dgB r = false := by simp only [dgB, decide_eq_false_iff_not]; exact h
theorem dgB_yes {r : Int} (h : dgB r = true) : 48 ≤ r ∧ r ≤ 57 := by simpa [dgB] using h
theorem dgB_not {r : Int} (h : dgB r = false) : ¬ (48 ≤ r ∧ r ≤ 57) := by simpa only [dgB, decide_eq_false_iff_not] using h
theorem smB_mk {r : Int} (h : 97 ≤ r ∧ r ≤ 122) : smB r = true := by simp [smB, h]
theorem smB_no {r : Int} (h : ¬ (97 ≤ r ∧ r ≤ 122)) : smB r = false := by simp only [smB, decide_eq_false_iff_not]; exact h
theorem smB_yes {r : Int} (h : smB r = true) : 97 ≤ r ∧ r ≤ 122 := by simpa [smB] using h
theorem smB_not {r : Int} (h : smB r = false) : ¬ (97 ≤ r ∧ r ≤ 122) := by simpa only [smB, decide_eq_false_iff_not] using h

/-- the byte at a place, as a number -/
def bat (s : ByteArray) (k : Nat) : Nat := (s.get! k).toNat
theorem bat_of (s : ByteArray) (k : Nat) (h : k < s.size) : bat s k = (s[k]'h).toNat := by
  have := get_at s k h
  simp only [Nat.add_zero] at this
  simp [bat, this]
theorem bat_lt (s : ByteArray) (k : Nat) : bat s k < 256 := (s.get! k).toNat_lt
theorem decode_low (s : ByteArray) (pos : Nat) (h : pos < s.size) (hl : bat s pos < 128) : Utf8.decode s pos = (bat s pos, 1) := by
  rw [bat_of s pos h] at *
  exact decode_ascii s pos h (by omega)
theorem decode_hi (s : ByteArray) (pos : Nat) (h : pos < s.size) (hl : ¬ bat s pos < 128) : 128 ≤ (Utf8.decode s pos).1 ∧ 1 ≤ (Utf8.decode s pos).2 := by
  rw [bat_of s pos h] at *
  exact decode_high s pos h (by omega)

/-- a rune that does not begin below 128 covers no byte below 128 and stays inside s -/
theorem decode_cont (s : ByteArray) (pos : Nat) (h : pos < s.size) (hl : ¬ bat s pos < 128) :
    1 ≤ (Utf8.decode s pos).2 ∧ pos + (Utf8.decode s pos).2 ≤ s.size ∧ ∀ j, j < (Utf8.decode s pos).2 → 128 ≤ bat s (pos + j) := by
  have e0 : (s.get! (pos + 0)).toNat = bat s pos := rfl
  have one : ∀ j, j < 1 → 128 ≤ bat s (pos + j) := fun j hj => by
    obtain rfl : j = 0 := by omega
    simpa using hl
  have fin1 : ∀ x : Nat × Nat, x.2 = 1 → 1 ≤ x.2 ∧ pos + x.2 ≤ s.size ∧ ∀ j, j < x.2 → 128 ≤ bat s (pos + j) := fun x hx => by
    rw [hx]; exact ⟨Nat.le_refl _, by omega, one⟩
  simp only [Utf8.decode, e0, if_neg hl]
  by_cases c1 : (decide (pos + 1 < s.size) && (s.get! (pos + 1)).toNat / 64 == 2) = true
  · simp only [Bool.and_eq_true, decide_eq_true_eq, beq_iff_eq] at c1
    have b1 : 128 ≤ bat s (pos + 1) := by show 128 ≤ (s.get! (pos + 1)).toNat; omega
    have fin2 : ∀ x : Nat × Nat, x.2 = 2 → 1 ≤ x.2 ∧ pos + x.2 ≤ s.size ∧ ∀ j, j < x.2 → 128 ≤ bat s (pos + j) := fun x hx => by
      rw [hx]; refine ⟨by omega, by omega, fun j hj => ?_⟩
      rcases (show j = 0 ∨ j = 1 by omega) with rfl | rfl
      · exact one 0 (by omega)
      · exact b1
    by_cases c2 : (decide (pos + 2 < s.size) && (s.get! (pos + 2)).toNat / 64 == 2) = true
    · simp only [Bool.and_eq_true, decide_eq_true_eq, beq_iff_eq] at c2
      have b2 : 128 ≤ bat s (pos + 2) := by show 128 ≤ (s.get! (pos + 2)).toNat; omega
      have fin3 : ∀ x : Nat × Nat, x.2 = 3 → 1 ≤ x.2 ∧ pos + x.2 ≤ s.size ∧ ∀ j, j < x.2 → 128 ≤ bat s (pos + j) := fun x hx => by
        rw [hx]; refine ⟨by omega, by omega, fun j hj => ?_⟩
        rcases (show j = 0 ∨ j = 1 ∨ j = 2 by omega) with rfl | rfl | rfl
        · exact one 0 (by omega)
        · exact b1
        · exact b2
      by_cases c3 : (decide (pos + 3 < s.size) && (s.get! (pos + 3)).toNat / 64 == 2) = true
      · simp only [Bool.and_eq_true, decide_eq_true_eq, beq_iff_eq] at c3
        have b3 : 128 ≤ bat s (pos + 3) := by show 128 ≤ (s.get! (pos + 3)).toNat; omega
        have fin4 : ∀ x : Nat × Nat, x.2 = 4 → 1 ≤ x.2 ∧ pos + x.2 ≤ s.size ∧ ∀ j, j < x.2 → 128 ≤ bat s (pos + j) := fun x hx => by
          rw [hx]; refine ⟨by omega, by omega, fun j hj => ?_⟩
          rcases (show j = 0 ∨ j = 1 ∨ j = 2 ∨ j = 3 by omega) with rfl | rfl | rfl | rfl
          · exact one 0 (by omega)
          · exact b1
          · exact b2
          · exact b3
        repeat' split
        all_goals first | exact fin1 _ rfl | exact fin2 _ rfl | exact fin3 _ rfl | exact fin4 _ rfl
      · simp only [Bool.not_eq_true] at c3
        simp only [c3, Bool.and_false]
        repeat' split
        all_goals first | exact fin1 _ rfl | exact fin2 _ rfl | exact fin3 _ rfl | (exfalso; simp_all; done)
    · simp only [Bool.not_eq_true] at c2
      simp only [c2, Bool.and_false, Bool.false_and]
      repeat' split
      all_goals first | exact fin1 _ rfl | exact fin2 _ rfl | (exfalso; simp_all; done)
  · simp only [Bool.not_eq_true] at c1
    simp only [c1, Bool.and_false, Bool.false_and]
    repeat' split
    all_goals first | exact fin1 _ rfl | (exfalso; simp_all; done)

/-- all bytes of s are digits, and there is one -/
def digits (s : ByteArray) : Bool := decide (0 < s.size ∧ ∀ k, k < s.size → dgB (bat s k) = true)
theorem digits_no (s : ByteArray) (k : Nat) (h : k < s.size) (hd : dgB (bat s k) = false) : digits s = false := by
  simp only [digits, decide_eq_false_iff_not]
  rintro ⟨_, h2⟩
  rw [h2 k h] at hd
  cases hd
theorem digits_all (s : ByteArray) (h0 : 0 < s.size) (hd : ∀ k, k < s.size → dgB (bat s k) = true) : digits s = true := by
  simp only [digits, decide_eq_true_eq]
  exact ⟨h0, hd⟩
theorem digits_nil (s : ByteArray) (h0 : ¬ 0 < s.size) : digits s = false := by
  simp only [digits, decide_eq_false_iff_not]
  exact fun h => h0 h.1

theorem emp_no (s : ByteArray) (h : 0 < s.size) : s.toList.isEmpty = false := by
  rw [ByteArray.toList_eq, List.isEmpty_eq_false_iff]
  intro he
  have : s.data.toList.length = 0 := by rw [he]; rfl
  rw [Array.length_toList] at this
  have h2 : s.size = s.data.size := rfl
  omega
theorem emp_yes (s : ByteArray) (h : ¬ 0 < s.size) : s.toList.isEmpty = true := by
  rw [ByteArray.toList_eq, List.isEmpty_iff]
  have h2 : s.size = s.data.size := rfl
  have : s.data.toList.length = 0 := by rw [Array.length_toList]; omega
  exact List.eq_nil_of_length_eq_zero this

/-! the walks -/
theorem isDigit_yes (r : Int) (w : World) (h : 48 ≤ r ∧ r ≤ 57) : Calls Try.prog 58 #[.int .i32 r] w fun e w' => e = .returned (.bool true) ∧ w = w' := by
  obtain ⟨h1, h2⟩ := h
  have g1 : decide (48 ≤ r) = true := by simpa using h1
  have g2 : decide (r ≤ 57) = true := by simpa using h2
  go_enter Try.func58, Try.ntmps58
  go_wp2
  go_ret
  exact ⟨rfl, rfl⟩

theorem isDigit_no (r : Int) (w : World) (h : ¬ (48 ≤ r ∧ r ≤ 57)) : Calls Try.prog 58 #[.int .i32 r] w fun e w' => e = .returned (.bool false) ∧ w = w' := by
  by_cases h1 : 48 ≤ r
  · have h2 : 57 < r := by omega
    have g2 : decide (r ≤ 57) = false := by simpa using h2
    clear h
    go_enter Try.func58, Try.ntmps58
    go_wp2
    go_ret
    exact ⟨by simp, rfl⟩
  · clear h
    have g2 : decide (48 ≤ r) = false := by simpa using h1
    go_enter Try.func58, Try.ntmps58
    go_wp2
    go_ret
    exact ⟨by simp, rfl⟩

/-! ### IsName -/
/-- may this byte stand at place k of a name? -/
def nameAt (k b : Nat) : Bool := smB b || (decide (k ≠ 0) && dgB b)
theorem nameAt_no {k b : Nat} (h1 : ¬ (97 ≤ b ∧ b ≤ 122)) (h2 : k = 0 ∨ ¬ (48 ≤ b ∧ b ≤ 57)) : nameAt k b = false := by
  unfold nameAt
  rw [smB_no (by omega)]
  rcases h2 with h2 | h2
  · simp [h2]
  · rw [dgB_no (by omega)]; simp
theorem nameAt_small {k b : Nat} (h : 97 ≤ b ∧ b ≤ 122) : nameAt k b = true := by
  unfold nameAt; rw [smB_mk (by omega)]; simp
theorem nameAt_dig {k b : Nat} (h : 48 ≤ b ∧ b ≤ 57) (hk : k ≠ 0) : nameAt k b = true := by
  unfold nameAt; rw [dgB_mk (by omega)]; simp [hk]
theorem nameAt_low {k b : Nat} (h : nameAt k b = true) : b < 128 := by
  unfold nameAt at h
  simp only [Bool.or_eq_true, Bool.and_eq_true] at h
  rcases h with h | ⟨_, h⟩
  · have := smB_yes h; omega
  · have := dgB_yes h; omega
def nameB (s : ByteArray) : Bool := decide (1 ≤ s.size ∧ s.size ≤ 8 ∧ ∀ k, k < s.size → nameAt k (bat s k) = true)
theorem nameB_no (s : ByteArray) (k : Nat) (h : k < s.size) (hd : nameAt k (bat s k) = false) : nameB s = false := by
  simp only [nameB, decide_eq_false_iff_not]
  rintro ⟨_, _, h2⟩
  rw [h2 k h] at hd
  cases hd
theorem nameB_all (s : ByteArray) (h0 : 1 ≤ s.size) (h8 : s.size ≤ 8) (hd : ∀ k, k < s.size → nameAt k (bat s k) = true) : nameB s = true := by
  simp only [nameB, decide_eq_true_eq]
  exact ⟨h0, h8, hd⟩
theorem nameB_len (s : ByteArray) (h0 : ¬ (1 ≤ s.size ∧ s.size ≤ 8)) : nameB s = false := by
  simp only [nameB, decide_eq_false_iff_not]
  exact fun h => h0 ⟨h.1, h.2.1⟩

theorem l01In_yes (n lo hi : Int) (w : World) (h : lo ≤ n ∧ n ≤ hi) :
    Calls Try.prog 47 #[.int .i64 n, .int .i64 lo, .int .i64 hi] w fun e w' => e = .returned (.bool true) ∧ w = w' := by
  have g1 : decide (lo ≤ n) = true := decide_eq_true h.1
  have g2 : decide (n ≤ hi) = true := decide_eq_true h.2
  clear h
  go_enter Try.func47, Try.ntmps47
  go_wp2
  go_ret
  exact ⟨rfl, rfl⟩

theorem l01In_no (n lo hi : Int) (w : World) (h : ¬ (lo ≤ n ∧ n ≤ hi)) :
    Calls Try.prog 47 #[.int .i64 n, .int .i64 lo, .int .i64 hi] w fun e w' => e = .returned (.bool false) ∧ w = w' := by
  by_cases h1 : lo ≤ n
  · have g1 : decide (lo ≤ n) = true := decide_eq_true h1
    have g2 : decide (n ≤ hi) = false := decide_eq_false fun h2 => h ⟨h1, h2⟩
    clear h
    go_enter Try.func47, Try.ntmps47
    go_wp2
    go_ret
    exact ⟨rfl, rfl⟩
  · have g1 : decide (lo ≤ n) = false := decide_eq_false h1
    clear h
    go_enter Try.func47, Try.ntmps47
    go_wp2
    go_ret
    exact ⟨rfl, rfl⟩

theorem isName_spec (s : ByteArray) (w : World) (hs : s.size ≤ maxLen) :
    Calls Try.prog 46 #[.string s] w fun e w' => e = .returned (.bool (nameB s)) ∧ w = w' := by
  unfold maxLen at hs
  go_enter Try.func46, Try.ntmps46
  go_wp2
  go_loop [3, 4] (fun i _ => ∃ k : Nat, k ≤ s.size ∧ i = .int .i64 k ∧ Hid (∀ j, j < k → nameAt j (bat s j) = true)) (fun i _ => s.size - (intOf i).toNat)
  case atStart => exact ⟨0, Nat.zero_le _, rfl, fun k hk => absurd hk (by omega)⟩
  case round =>
    obtain ⟨k, hle, rfl, hd⟩ := hrel
    by_cases hp : k < s.size
    · have hbt := bat_of s k hp
      by_cases hn : nameAt k (bat s k) = true
      · have hnext : Hid (∀ j, j < k + 1 → nameAt j (bat s j) = true) := fun j hj => by
          by_cases hj' : j = k
          · rw [hj']; exact hn
          · exact hd.out j (by omega)
        have hcase : (97 ≤ bat s k ∧ bat s k ≤ 122) ∨ (k ≠ 0 ∧ 48 ≤ bat s k ∧ bat s k ≤ 57) := by
          unfold nameAt at hn
          simp only [Bool.or_eq_true, Bool.and_eq_true, decide_eq_true_eq] at hn
          rcases hn with h | ⟨h1, h⟩
          · have := smB_yes h; omega
          · have := dgB_yes h; omega
        rw [hbt] at hcase
        clear hn hd hbt
        rcases hcase with ⟨h1, h2⟩ | ⟨hk, h1, h2⟩
        · have g1 : decide ((97 : Int) ≤ ((s[k]'hp).toNat : Int)) = true := decide_eq_true (by omega)
          have g2 : decide (((s[k]'hp).toNat : Int) ≤ 122) = true := decide_eq_true (by omega)
          go_wp2
          go_round
          case rel => exact ⟨k + 1, by omega, by go_num, hnext⟩
          case measure => simp [intOf]; omega
        · have g1 : decide ((97 : Int) ≤ ((s[k]'hp).toNat : Int)) = false := decide_eq_false (by omega)
          have g2 : ((k : Int) == 0) = false := by simpa using hk
          have g3 : decide (((s[k]'hp).toNat : Int) < 48) = false := decide_eq_false (by omega)
          have g4 : decide ((57 : Int) < ((s[k]'hp).toNat : Int)) = false := decide_eq_false (by omega)
          go_wp2
          go_round
          case rel => exact ⟨k + 1, by omega, by go_num, hnext⟩
          case measure => simp [intOf]; omega
      · have hdn : nameB s = false := nameB_no s k hp (by simpa using hn)
        have hcase : ¬ (97 ≤ bat s k ∧ bat s k ≤ 122) ∧ (k = 0 ∨ (k ≠ 0 ∧ ¬ (48 ≤ bat s k ∧ bat s k ≤ 57))) := by
          refine ⟨fun h => hn (nameAt_small h), ?_⟩
          by_cases hk : k = 0
          · exact .inl hk
          · exact .inr ⟨hk, fun h => hn (nameAt_dig h hk)⟩
        rw [hbt] at hcase
        have Hdn := Lib.hid hdn
        clear hn hd hbt hdn
        obtain ⟨hs1, hk⟩ := hcase
        have hs2 : (s[k]'hp).toNat < 97 ∨ 122 < (s[k]'hp).toNat := by omega
        rcases hs2 with hs2 | hs2
        · have g1 : decide ((97 : Int) ≤ ((s[k]'hp).toNat : Int)) = false := decide_eq_false (by omega)
          rcases hk with hk | ⟨hk, hk2⟩
          · subst hk
            clear hs1
            go_wp2
            go_ret
            exact ⟨by rw [Hdn.out]; rfl, rfl⟩
          · have g2 : ((k : Int) == 0) = false := by simpa using hk
            by_cases hk3 : (s[k]'hp).toNat < 48
            · have g3 : decide (((s[k]'hp).toNat : Int) < 48) = true := decide_eq_true (by omega)
              clear hs1 hk2
              go_wp2
              go_ret
              exact ⟨by rw [Hdn.out]; rfl, rfl⟩
            · have g3 : decide (((s[k]'hp).toNat : Int) < 48) = false := decide_eq_false (by omega)
              have g4 : decide ((57 : Int) < ((s[k]'hp).toNat : Int)) = true := decide_eq_true (by omega)
              clear hs1 hk2
              go_wp2
              go_ret
              exact ⟨by rw [Hdn.out]; rfl, rfl⟩
        · have g1 : decide ((97 : Int) ≤ ((s[k]'hp).toNat : Int)) = true := decide_eq_true (by omega)
          have g1b : decide (((s[k]'hp).toNat : Int) ≤ 122) = false := decide_eq_false (by omega)
          rcases hk with hk | ⟨hk, hk2⟩
          · subst hk
            clear hs1
            go_wp2
            go_ret
            exact ⟨by rw [Hdn.out]; rfl, rfl⟩
          · have g2 : ((k : Int) == 0) = false := by simpa using hk
            have g3 : decide (((s[k]'hp).toNat : Int) < 48) = false := decide_eq_false (by omega)
            have g4 : decide ((57 : Int) < ((s[k]'hp).toNat : Int)) = true := decide_eq_true (by omega)
            clear hs1 hk2
            go_wp2
            go_ret
            exact ⟨by rw [Hdn.out]; rfl, rfl⟩
    · by_cases h0 : 1 ≤ s.size ∧ s.size ≤ 8
      · have Hdn : Hid (nameB s = true) := nameB_all s h0.1 h0.2 fun k hk => hd.out k (by omega)
        go_wp2_with (go_at_call 47; refine (l01In_yes _ _ _ _ (by omega)).mono ?_; rintro e w' ⟨rfl, rfl⟩)
        go_ret
        exact ⟨by rw [Hdn.out]; rfl, rfl⟩
      · have Hdn : Hid (nameB s = false) := nameB_len s h0
        go_wp2_with (go_at_call 47; refine (l01In_no _ _ _ _ (by omega)).mono ?_; rintro e w' ⟨rfl, rfl⟩)
        go_ret
        exact ⟨by rw [Hdn.out]; rfl, rfl⟩

theorem isSmall_yes (r : Int) (w : World) (h : 97 ≤ r ∧ r ≤ 122) : Calls Try.prog 57 #[.int .i32 r] w fun e w' => e = .returned (.bool true) ∧ w = w' := by
  obtain ⟨h1, h2⟩ := h
  have g1 : decide (97 ≤ r) = true := decide_eq_true h1
  have g2 : decide (r ≤ 122) = true := decide_eq_true h2
  go_enter Try.func57, Try.ntmps57
  go_wp2
  go_ret
  exact ⟨rfl, rfl⟩

theorem isSmall_no (r : Int) (w : World) (h : ¬ (97 ≤ r ∧ r ≤ 122)) : Calls Try.prog 57 #[.int .i32 r] w fun e w' => e = .returned (.bool false) ∧ w = w' := by
  by_cases h1 : 97 ≤ r
  · have g1 : decide (97 ≤ r) = true := decide_eq_true h1
    have g2 : decide (r ≤ 122) = false := decide_eq_false (by omega)
    clear h
    go_enter Try.func57, Try.ntmps57
    go_wp2
    go_ret
    exact ⟨by first | rfl | simp, rfl⟩
  · have g2 : decide (97 ≤ r) = false := decide_eq_false h1
    clear h
    go_enter Try.func57, Try.ntmps57
    go_wp2
    go_ret
    exact ⟨by first | rfl | simp, rfl⟩

theorem isName_impl (s : ByteArray) (w : World) (hs : s.size ≤ maxLen) :
    Calls Try.prog 48 #[.string s] w fun e w' => e = .returned (.bool (nameB s)) ∧ Below w.heap.size w w' := by
  unfold maxLen at hs
  by_cases hz : 0 < s.size
  · have hne : s.toList.isEmpty = false := emp_no s hz
    by_cases h8 : 8 < s.size
    · have Hdn : Hid (nameB s = false) := nameB_len s (by omega)
      have g1 : decide ((8 : Int) < (s.size : Int)) = true := decide_eq_true (by omega)
      go_enter Try.func48, Try.ntmps48
      go_wp2
      go_ret
      exact ⟨by rw [Hdn.out]; rfl, Below.refl _ _⟩
    · have g1 : decide ((8 : Int) < (s.size : Int)) = false := decide_eq_false (by omega)
      go_enter Try.func48, Try.ntmps48
      go_wp2
      clear hne g1
      go_loopw [3, 4] (fun _ _ w' => ∃ pos : Nat, pos ≤ s.size ∧ w' = w.iter s pos ∧ Hid (∀ k, k < pos → nameAt k (bat s k) = true)) (fun _ _ w' => s.size - w'.iterPos w.heap.size)
      case atStart => exact ⟨0, Nat.zero_le _, rfl, fun k hk => absurd hk (by omega)⟩
      case round =>
        obtain ⟨pos, hle, rfl, hd⟩ := hrel
        by_cases hp : pos < s.size
        · have hnx : ∀ ty, (Instr.next (.pointer (some ⟨w.heap.size, 0, none⟩)) true ty).run Try.prog (w.iter s pos) = _ := fun ty => run_next_any w s pos ty hp
          by_cases hn : nameAt pos (bat s pos) = true
          · have hnext : Hid (∀ j, j < pos + 1 → nameAt j (bat s j) = true) := fun j hj => by
              by_cases hj' : j = pos
              · rw [hj']; exact hn
              · exact hd.out j (by omega)
            have hcase : (97 ≤ bat s pos ∧ bat s pos ≤ 122) ∨ (pos ≠ 0 ∧ 48 ≤ bat s pos ∧ bat s pos ≤ 57) := by
              have hn := hn
              unfold nameAt at hn
              simp only [Bool.or_eq_true, Bool.and_eq_true, decide_eq_true_eq] at hn
              rcases hn with h | ⟨h1, h⟩
              · have := smB_yes h; omega
              · have := dgB_yes h; omega
            rw [decode_low s pos hp (nameAt_low hn)] at hnx
            clear hn hd
            rcases hcase with ⟨h1, h2⟩ | ⟨hk, h1, h2⟩
            · go_wp2_with (go_at_call 57; refine (isSmall_yes _ _ (by omega)).mono ?_; rintro e w' ⟨rfl, rfl⟩)
              go_roundw
              case rel => exact ⟨pos + 1, by omega, rfl, hnext⟩
              case measure => simp; omega
            · have g2 : ((pos : Int) == 0) = false := by simpa using hk
              go_wp2_with (first
                | (go_at_call 57; refine (isSmall_no _ _ (by omega)).mono ?_; rintro e w' ⟨rfl, rfl⟩)
                | (go_at_call 58; refine (isDigit_yes _ _ (by omega)).mono ?_; rintro e w' ⟨rfl, rfl⟩))
              go_roundw
              case rel => exact ⟨pos + 1, by omega, rfl, hnext⟩
              case measure => simp; omega
          · have Hdn : Hid (nameB s = false) := nameB_no s pos hp (by simpa using hn)
            have hcase : ¬ (97 ≤ ((Utf8.decode s pos).1 : Int) ∧ ((Utf8.decode s pos).1 : Int) ≤ 122) ∧ (pos = 0 ∨ (pos ≠ 0 ∧ ¬ (48 ≤ ((Utf8.decode s pos).1 : Int) ∧ ((Utf8.decode s pos).1 : Int) ≤ 57))) := by
              by_cases hl : bat s pos < 128
              · rw [decode_low s pos hp hl]
                refine ⟨fun h => hn (nameAt_small (by simp only at h; omega)), ?_⟩
                by_cases hk : pos = 0
                · exact .inl hk
                · exact .inr ⟨hk, fun h => hn (nameAt_dig (by simp only at h; omega) hk)⟩
              · have := (decode_hi s pos hp hl).1
                by_cases hk : pos = 0
                · exact ⟨by omega, .inl hk⟩
                · exact ⟨by omega, .inr ⟨hk, by omega⟩⟩
            generalize hg : (Utf8.decode s pos).1 = r at *
            generalize hg2 : (Utf8.decode s pos).2 = wd at *
            obtain ⟨hr1, hk⟩ := hcase
            clear hg hg2 hd hn
            rcases hk with hk | ⟨hk, hk2⟩
            · subst hk
              go_wp2_with (go_at_call 57; refine (isSmall_no _ _ hr1).mono ?_; rintro e w' ⟨rfl, rfl⟩)
              go_ret
              exact ⟨by rw [Hdn.out]; rfl, (Below.refl _ _).alloc (Nat.le_refl _) _⟩
            · have g2 : ((pos : Int) == 0) = false := by simpa using hk
              go_wp2_with (first
                | (go_at_call 57; refine (isSmall_no _ _ hr1).mono ?_; rintro e w' ⟨rfl, rfl⟩)
                | (go_at_call 58; refine (isDigit_no _ _ hk2).mono ?_; rintro e w' ⟨rfl, rfl⟩))
              go_ret
              exact ⟨by rw [Hdn.out]; rfl, (Below.refl _ _).alloc (Nat.le_refl _) _⟩
        · have hnx : ∀ ty, (Instr.next (.pointer (some ⟨w.heap.size, 0, none⟩)) true ty).run Try.prog (w.iter s pos) = _ := fun ty => run_next_end w s pos ty hp
          have Hdn : Hid (nameB s = true) := nameB_all s hz (by omega) fun k hk => hd.out k (by omega)
          go_wp2
          go_ret
          exact ⟨by rw [Hdn.out]; rfl, (Below.refl _ _).alloc (Nat.le_refl _) _⟩
  · have Hdn : Hid (nameB s = false) := nameB_len s (by omega)
    have hne : s.toList.isEmpty = true := emp_yes s hz
    go_enter Try.func48, Try.ntmps48
    go_wp2
    go_ret
    exact ⟨by rw [Hdn.out]; rfl, Below.refl _ _⟩

end Go.Proofs.Ytmghnhjfkecaaaa
