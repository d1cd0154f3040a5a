/-
  Packed: TextA, Games, Push, Games2, Season, Tables, Tables2, Await.
-/
import Derived.Test.YteciobkjfmddcaaDoorProg
import Derived.WalkKit
import Derived.BigQuiet
import Derived.Deep.QuietTactic
import Derived.Lib.Hide
import Derived.Outline
import Derived.Deep.AppendLies
import Derived.Deep.RegionHeld3
import Derived.Test.YteciobkjfmddcaaDoorQ1
import Derived.Test.YteciobkjfmddcaaDoorQ2
import Derived.Test.YteciobkjfmddcaaDoorQ4
import Derived.Test.YteciobkjfmddcaaDoorQ5
set_option linter.unusedVariables false
namespace Go.Proofs.YteciobkjfmddcaaDoor
open Go.RowKit

def dgB (r : Int) : Bool := decide (48 ≤ r ∧ r ≤ 57)
def smB (r : Int) : Bool := decide (97 ≤ r ∧ r ≤ 122)
theorem dgB_mk {r : Int} (h : 48 ≤ r ∧ r ≤ 57) : dgB r = true := by simp [dgB, h]
theorem dgB_no {r : Int} (h : ¬ (48 ≤ r ∧ r ≤ 57)) : dgB r = false := by simp only [dgB, decide_eq_false_iff_not]; exact h
theorem dgB_yes {r : Int} (h : dgB r = true) : 48 ≤ r ∧ r ≤ 57 := by simpa [dgB] using h
theorem dgB_not {r : Int} (h : dgB r = false) : ¬ (48 ≤ r ∧ r ≤ 57) := by simpa only [dgB, decide_eq_false_iff_not] using h
theorem smB_mk {r : Int} (h : 97 ≤ r ∧ r ≤ 122) : smB r = true := by simp [smB, h]
theorem smB_no {r : Int} (h : ¬ (97 ≤ r ∧ r ≤ 122)) : smB r = false := by simp only [smB, decide_eq_false_iff_not]; exact h
theorem smB_yes {r : Int} (h : smB r = true) : 97 ≤ r ∧ r ≤ 122 := by simpa [smB] using h
theorem smB_not {r : Int} (h : smB r = false) : ¬ (97 ≤ r ∧ r ≤ 122) := by simpa only [smB, decide_eq_false_iff_not] using h

def bat (s : ByteArray) (k : Nat) : Nat := (s.get! k).toNat
theorem bat_of (s : ByteArray) (k : Nat) (h : k < s.size) : bat s k = (s[k]'h).toNat := by
  have := get_at s k h
  simp only [Nat.add_zero] at this
  simp [bat, this]
theorem bat_lt (s : ByteArray) (k : Nat) : bat s k < 256 := (s.get! k).toNat_lt
theorem decode_low (s : ByteArray) (pos : Nat) (h : pos < s.size) (hl : bat s pos < 128) : Utf8.decode s pos = (bat s pos, 1) := by
  rw [bat_of s pos h] at *
  exact decode_ascii s pos h (by omega)
theorem decode_hi (s : ByteArray) (pos : Nat) (h : pos < s.size) (hl : ¬ bat s pos < 128) : 128 ≤ (Utf8.decode s pos).1 ∧ 1 ≤ (Utf8.decode s pos).2 := by
  rw [bat_of s pos h] at *
  exact decode_high s pos h (by omega)

theorem decode_cont (s : ByteArray) (pos : Nat) (h : pos < s.size) (hl : ¬ bat s pos < 128) :
    1 ≤ (Utf8.decode s pos).2 ∧ pos + (Utf8.decode s pos).2 ≤ s.size ∧ ∀ j, j < (Utf8.decode s pos).2 → 128 ≤ bat s (pos + j) := by
  have e0 : (s.get! (pos + 0)).toNat = bat s pos := rfl
  have one : ∀ j, j < 1 → 128 ≤ bat s (pos + j) := fun j hj => by
    obtain rfl : j = 0 := by omega
    simpa using hl
  have fin1 : ∀ x : Nat × Nat, x.2 = 1 → 1 ≤ x.2 ∧ pos + x.2 ≤ s.size ∧ ∀ j, j < x.2 → 128 ≤ bat s (pos + j) := fun x hx => by
    rw [hx]; exact ⟨Nat.le_refl _, by omega, one⟩
  simp only [Utf8.decode, e0, if_neg hl]
  by_cases c1 : (decide (pos + 1 < s.size) && (s.get! (pos + 1)).toNat / 64 == 2) = true
  · simp only [Bool.and_eq_true, decide_eq_true_eq, beq_iff_eq] at c1
    have b1 : 128 ≤ bat s (pos + 1) := by show 128 ≤ (s.get! (pos + 1)).toNat; omega
    have fin2 : ∀ x : Nat × Nat, x.2 = 2 → 1 ≤ x.2 ∧ pos + x.2 ≤ s.size ∧ ∀ j, j < x.2 → 128 ≤ bat s (pos + j) := fun x hx => by
      rw [hx]; refine ⟨by omega, by omega, fun j hj => ?_⟩
      rcases (show j = 0 ∨ j = 1 by omega) with rfl | rfl
      · exact one 0 (by omega)
      · exact b1
    by_cases c2 : (decide (pos + 2 < s.size) && (s.get! (pos + 2)).toNat / 64 == 2) = true
    · simp only [Bool.and_eq_true, decide_eq_true_eq, beq_iff_eq] at c2
      have b2 : 128 ≤ bat s (pos + 2) := by show 128 ≤ (s.get! (pos + 2)).toNat; omega
      have fin3 : ∀ x : Nat × Nat, x.2 = 3 → 1 ≤ x.2 ∧ pos + x.2 ≤ s.size ∧ ∀ j, j < x.2 → 128 ≤ bat s (pos + j) := fun x hx => by
        rw [hx]; refine ⟨by omega, by omega, fun j hj => ?_⟩
        rcases (show j = 0 ∨ j = 1 ∨ j = 2 by omega) with rfl | rfl | rfl
        · exact one 0 (by omega)
        · exact b1
        · exact b2
      by_cases c3 : (decide (pos + 3 < s.size) && (s.get! (pos + 3)).toNat / 64 == 2) = true
      · simp only [Bool.and_eq_true, decide_eq_true_eq, beq_iff_eq] at c3
        have b3 : 128 ≤ bat s (pos + 3) := by show 128 ≤ (s.get! (pos + 3)).toNat; omega
        have fin4 : ∀ x : Nat × Nat, x.2 = 4 → 1 ≤ x.2 ∧ pos + x.2 ≤ s.size ∧ ∀ j, j < x.2 → 128 ≤ bat s (pos + j) := fun x hx => by
          rw [hx]; refine ⟨by omega, by omega, fun j hj => ?_⟩
          rcases (show j = 0 ∨ j = 1 ∨ j = 2 ∨ j = 3 by omega) with rfl | rfl | rfl | rfl
          · exact one 0 (by omega)
          · exact b1
          · exact b2
          · exact b3
        repeat' split
        all_goals first | exact fin1 _ rfl | exact fin2 _ rfl | exact fin3 _ rfl | exact fin4 _ rfl
      · simp only [Bool.not_eq_true] at c3
        simp only [c3, Bool.and_false]
        repeat' split
        all_goals first | exact fin1 _ rfl | exact fin2 _ rfl | exact fin3 _ rfl | (exfalso; simp_all; done)
    · simp only [Bool.not_eq_true] at c2
      simp only [c2, Bool.and_false, Bool.false_and]
      repeat' split
      all_goals first | exact fin1 _ rfl | exact fin2 _ rfl | (exfalso; simp_all; done)
  · simp only [Bool.not_eq_true] at c1
    simp only [c1, Bool.and_false, Bool.false_and]
    repeat' split
    all_goals first | exact fin1 _ rfl | (exfalso; simp_all; done)

def digits (s : ByteArray) : Bool := decide (0 < s.size ∧ ∀ k, k < s.size → dgB (bat s k) = true)
theorem digits_no (s : ByteArray) (k : Nat) (h : k < s.size) (hd : dgB (bat s k) = false) : digits s = false := by
  simp only [digits, decide_eq_false_iff_not]
  rintro ⟨_, h2⟩
  rw [h2 k h] at hd
  cases hd
theorem digits_all (s : ByteArray) (h0 : 0 < s.size) (hd : ∀ k, k < s.size → dgB (bat s k) = true) : digits s = true := by
  simp only [digits, decide_eq_true_eq]
  exact ⟨h0, hd⟩
theorem digits_nil (s : ByteArray) (h0 : ¬ 0 < s.size) : digits s = false := by
  simp only [digits, decide_eq_false_iff_not]
  exact fun h => h0 h.1

theorem emp_no (s : ByteArray) (h : 0 < s.size) : s.toList.isEmpty = false := by
  rw [ByteArray.toList_eq, List.isEmpty_eq_false_iff]
  intro he
  have : s.data.toList.length = 0 := by rw [he]; rfl
  rw [Array.length_toList] at this
  have h2 : s.size = s.data.size := rfl
  omega
theorem emp_yes (s : ByteArray) (h : ¬ 0 < s.size) : s.toList.isEmpty = true := by
  rw [ByteArray.toList_eq, List.isEmpty_iff]
  have h2 : s.size = s.data.size := rfl
  have : s.data.toList.length = 0 := by rw [Array.length_toList]; omega
  exact List.eq_nil_of_length_eq_zero this

theorem isDigit_yes (r : Int) (w : World) (h : 48 ≤ r ∧ r ≤ 57) : Calls Tryd.prog 77 #[.int .i32 r] w fun e w' => e = .returned (.bool true) ∧ w = w' := by
  obtain ⟨h1, h2⟩ := h
  have g1 : decide (48 ≤ r) = true := by simpa using h1
  have g2 : decide (r ≤ 57) = true := by simpa using h2
  go_enter Tryd.func77, Tryd.ntmps77
  go_wp2
  go_ret
  exact ⟨rfl, rfl⟩

theorem isDigit_no (r : Int) (w : World) (h : ¬ (48 ≤ r ∧ r ≤ 57)) : Calls Tryd.prog 77 #[.int .i32 r] w fun e w' => e = .returned (.bool false) ∧ w = w' := by
  by_cases h1 : 48 ≤ r
  · have h2 : 57 < r := by omega
    have g2 : decide (r ≤ 57) = false := by simpa using h2
    clear h
    go_enter Tryd.func77, Tryd.ntmps77
    go_wp2
    go_ret
    exact ⟨by simp, rfl⟩
  · clear h
    have g2 : decide (48 ≤ r) = false := by simpa using h1
    go_enter Tryd.func77, Tryd.ntmps77
    go_wp2
    go_ret
    exact ⟨by simp, rfl⟩

def nameAt (k b : Nat) : Bool := smB b || (decide (k ≠ 0) && dgB b)
theorem nameAt_no {k b : Nat} (h1 : ¬ (97 ≤ b ∧ b ≤ 122)) (h2 : k = 0 ∨ ¬ (48 ≤ b ∧ b ≤ 57)) : nameAt k b = false := by
  unfold nameAt
  rw [smB_no (by omega)]
  rcases h2 with h2 | h2
  · simp [h2]
  · rw [dgB_no (by omega)]; simp
theorem nameAt_small {k b : Nat} (h : 97 ≤ b ∧ b ≤ 122) : nameAt k b = true := by
  unfold nameAt; rw [smB_mk (by omega)]; simp
theorem nameAt_dig {k b : Nat} (h : 48 ≤ b ∧ b ≤ 57) (hk : k ≠ 0) : nameAt k b = true := by
  unfold nameAt; rw [dgB_mk (by omega)]; simp [hk]
theorem nameAt_low {k b : Nat} (h : nameAt k b = true) : b < 128 := by
  unfold nameAt at h
  simp only [Bool.or_eq_true, Bool.and_eq_true] at h
  rcases h with h | ⟨_, h⟩
  · have := smB_yes h; omega
  · have := dgB_yes h; omega
def nameB (s : ByteArray) : Bool := decide (1 ≤ s.size ∧ s.size ≤ 8 ∧ ∀ k, k < s.size → nameAt k (bat s k) = true)
theorem nameB_no (s : ByteArray) (k : Nat) (h : k < s.size) (hd : nameAt k (bat s k) = false) : nameB s = false := by
  simp only [nameB, decide_eq_false_iff_not]
  rintro ⟨_, _, h2⟩
  rw [h2 k h] at hd
  cases hd
theorem nameB_all (s : ByteArray) (h0 : 1 ≤ s.size) (h8 : s.size ≤ 8) (hd : ∀ k, k < s.size → nameAt k (bat s k) = true) : nameB s = true := by
  simp only [nameB, decide_eq_true_eq]
  exact ⟨h0, h8, hd⟩
theorem nameB_len (s : ByteArray) (h0 : ¬ (1 ≤ s.size ∧ s.size ≤ 8)) : nameB s = false := by
  simp only [nameB, decide_eq_false_iff_not]
  exact fun h => h0 ⟨h.1, h.2.1⟩

theorem l01In_yes (n lo hi : Int) (w : World) (h : lo ≤ n ∧ n ≤ hi) :
    Calls Tryd.prog 41 #[.int .i64 n, .int .i64 lo, .int .i64 hi] w fun e w' => e = .returned (.bool true) ∧ w = w' := by
  have g1 : decide (lo ≤ n) = true := decide_eq_true h.1
  have g2 : decide (n ≤ hi) = true := decide_eq_true h.2
  clear h
  go_enter Tryd.func41, Tryd.ntmps41
  go_wp2
  go_ret
  exact ⟨rfl, rfl⟩

theorem l01In_no (n lo hi : Int) (w : World) (h : ¬ (lo ≤ n ∧ n ≤ hi)) :
    Calls Tryd.prog 41 #[.int .i64 n, .int .i64 lo, .int .i64 hi] w fun e w' => e = .returned (.bool false) ∧ w = w' := by
  by_cases h1 : lo ≤ n
  · have g1 : decide (lo ≤ n) = true := decide_eq_true h1
    have g2 : decide (n ≤ hi) = false := decide_eq_false fun h2 => h ⟨h1, h2⟩
    clear h
    go_enter Tryd.func41, Tryd.ntmps41
    go_wp2
    go_ret
    exact ⟨rfl, rfl⟩
  · have g1 : decide (lo ≤ n) = false := decide_eq_false h1
    clear h
    go_enter Tryd.func41, Tryd.ntmps41
    go_wp2
    go_ret
    exact ⟨rfl, rfl⟩

theorem isName_spec (s : ByteArray) (w : World) (hs : s.size ≤ maxLen) :
    Calls Tryd.prog 67 #[.string s] w fun e w' => e = .returned (.bool (nameB s)) ∧ w = w' := by
  unfold maxLen at hs
  go_enter Tryd.func67, Tryd.ntmps67
  go_wp2
  go_loop [3, 4] (fun i _ => ∃ k : Nat, k ≤ s.size ∧ i = .int .i64 k ∧ Hid (∀ j, j < k → nameAt j (bat s j) = true)) (fun i _ => s.size - (RowKit.intOf i).toNat)
  case atStart => exact ⟨0, Nat.zero_le _, rfl, fun k hk => absurd hk (by omega)⟩
  case round =>
    obtain ⟨k, hle, rfl, hd⟩ := hrel
    by_cases hp : k < s.size
    · have hbt := bat_of s k hp
      by_cases hn : nameAt k (bat s k) = true
      · have hnext : Hid (∀ j, j < k + 1 → nameAt j (bat s j) = true) := fun j hj => by
          by_cases hj' : j = k
          · rw [hj']; exact hn
          · exact hd.out j (by omega)
        have hcase : (97 ≤ bat s k ∧ bat s k ≤ 122) ∨ (k ≠ 0 ∧ 48 ≤ bat s k ∧ bat s k ≤ 57) := by
          unfold nameAt at hn
          simp only [Bool.or_eq_true, Bool.and_eq_true, decide_eq_true_eq] at hn
          rcases hn with h | ⟨h1, h⟩
          · have := smB_yes h; omega
          · have := dgB_yes h; omega
        rw [hbt] at hcase
        clear hn hd hbt
        rcases hcase with ⟨h1, h2⟩ | ⟨hk, h1, h2⟩
        · have g1 : decide ((97 : Int) ≤ ((s[k]'hp).toNat : Int)) = true := decide_eq_true (by omega)
          have g2 : decide (((s[k]'hp).toNat : Int) ≤ 122) = true := decide_eq_true (by omega)
          go_wp2
          go_round
          case rel => exact ⟨k + 1, by omega, by go_num, hnext⟩
          case measure => simp [RowKit.intOf]; omega
        · have g1 : decide ((97 : Int) ≤ ((s[k]'hp).toNat : Int)) = false := decide_eq_false (by omega)
          have g2 : ((k : Int) == 0) = false := by simpa using hk
          have g3 : decide (((s[k]'hp).toNat : Int) < 48) = false := decide_eq_false (by omega)
          have g4 : decide ((57 : Int) < ((s[k]'hp).toNat : Int)) = false := decide_eq_false (by omega)
          go_wp2
          go_round
          case rel => exact ⟨k + 1, by omega, by go_num, hnext⟩
          case measure => simp [RowKit.intOf]; omega
      · have hdn : nameB s = false := nameB_no s k hp (by simpa using hn)
        have hcase : ¬ (97 ≤ bat s k ∧ bat s k ≤ 122) ∧ (k = 0 ∨ (k ≠ 0 ∧ ¬ (48 ≤ bat s k ∧ bat s k ≤ 57))) := by
          refine ⟨fun h => hn (nameAt_small h), ?_⟩
          by_cases hk : k = 0
          · exact .inl hk
          · exact .inr ⟨hk, fun h => hn (nameAt_dig h hk)⟩
        rw [hbt] at hcase
        have Hdn := Lib.hid hdn
        clear hn hd hbt hdn
        obtain ⟨hs1, hk⟩ := hcase
        have hs2 : (s[k]'hp).toNat < 97 ∨ 122 < (s[k]'hp).toNat := by omega
        rcases hs2 with hs2 | hs2
        · have g1 : decide ((97 : Int) ≤ ((s[k]'hp).toNat : Int)) = false := decide_eq_false (by omega)
          rcases hk with hk | ⟨hk, hk2⟩
          · subst hk
            clear hs1
            go_wp2
            go_ret
            exact ⟨by rw [Hdn.out]; rfl, rfl⟩
          · have g2 : ((k : Int) == 0) = false := by simpa using hk
            by_cases hk3 : (s[k]'hp).toNat < 48
            · have g3 : decide (((s[k]'hp).toNat : Int) < 48) = true := decide_eq_true (by omega)
              clear hs1 hk2
              go_wp2
              go_ret
              exact ⟨by rw [Hdn.out]; rfl, rfl⟩
            · have g3 : decide (((s[k]'hp).toNat : Int) < 48) = false := decide_eq_false (by omega)
              have g4 : decide ((57 : Int) < ((s[k]'hp).toNat : Int)) = true := decide_eq_true (by omega)
              clear hs1 hk2
              go_wp2
              go_ret
              exact ⟨by rw [Hdn.out]; rfl, rfl⟩
        · have g1 : decide ((97 : Int) ≤ ((s[k]'hp).toNat : Int)) = true := decide_eq_true (by omega)
          have g1b : decide (((s[k]'hp).toNat : Int) ≤ 122) = false := decide_eq_false (by omega)
          rcases hk with hk | ⟨hk, hk2⟩
          · subst hk
            clear hs1
            go_wp2
            go_ret
            exact ⟨by rw [Hdn.out]; rfl, rfl⟩
          · have g2 : ((k : Int) == 0) = false := by simpa using hk
            have g3 : decide (((s[k]'hp).toNat : Int) < 48) = false := decide_eq_false (by omega)
            have g4 : decide ((57 : Int) < ((s[k]'hp).toNat : Int)) = true := decide_eq_true (by omega)
            clear hs1 hk2
            go_wp2
            go_ret
            exact ⟨by rw [Hdn.out]; rfl, rfl⟩
    · by_cases h0 : 1 ≤ s.size ∧ s.size ≤ 8
      · have Hdn : Hid (nameB s = true) := nameB_all s h0.1 h0.2 fun k hk => hd.out k (by omega)
        go_wp2_with (go_at_call 41; refine (l01In_yes _ _ _ _ (by omega)).mono ?_; rintro e w' ⟨rfl, rfl⟩)
        go_ret
        exact ⟨by rw [Hdn.out]; rfl, rfl⟩
      · have Hdn : Hid (nameB s = false) := nameB_len s h0
        go_wp2_with (go_at_call 41; refine (l01In_no _ _ _ _ (by omega)).mono ?_; rintro e w' ⟨rfl, rfl⟩)
        go_ret
        exact ⟨by rw [Hdn.out]; rfl, rfl⟩

theorem isSmall_yes (r : Int) (w : World) (h : 97 ≤ r ∧ r ≤ 122) : Calls Tryd.prog 76 #[.int .i32 r] w fun e w' => e = .returned (.bool true) ∧ w = w' := by
  obtain ⟨h1, h2⟩ := h
  have g1 : decide (97 ≤ r) = true := decide_eq_true h1
  have g2 : decide (r ≤ 122) = true := decide_eq_true h2
  go_enter Tryd.func76, Tryd.ntmps76
  go_wp2
  go_ret
  exact ⟨rfl, rfl⟩

theorem isSmall_no (r : Int) (w : World) (h : ¬ (97 ≤ r ∧ r ≤ 122)) : Calls Tryd.prog 76 #[.int .i32 r] w fun e w' => e = .returned (.bool false) ∧ w = w' := by
  by_cases h1 : 97 ≤ r
  · have g1 : decide (97 ≤ r) = true := decide_eq_true h1
    have g2 : decide (r ≤ 122) = false := decide_eq_false (by omega)
    clear h
    go_enter Tryd.func76, Tryd.ntmps76
    go_wp2
    go_ret
    exact ⟨by first | rfl | simp, rfl⟩
  · have g2 : decide (97 ≤ r) = false := decide_eq_false h1
    clear h
    go_enter Tryd.func76, Tryd.ntmps76
    go_wp2
    go_ret
    exact ⟨by first | rfl | simp, rfl⟩

theorem isName_impl (s : ByteArray) (w : World) (hs : s.size ≤ maxLen) :
    Calls Tryd.prog 68 #[.string s] w fun e w' => e = .returned (.bool (nameB s)) ∧ Below w.heap.size w w' := by
  unfold maxLen at hs
  by_cases hz : 0 < s.size
  · have hne : s.toList.isEmpty = false := emp_no s hz
    by_cases h8 : 8 < s.size
    · have Hdn : Hid (nameB s = false) := nameB_len s (by omega)
      have g1 : decide ((8 : Int) < (s.size : Int)) = true := decide_eq_true (by omega)
      go_enter Tryd.func68, Tryd.ntmps68
      go_wp2
      go_ret
      exact ⟨by rw [Hdn.out]; rfl, Below.refl _ _⟩
    · have g1 : decide ((8 : Int) < (s.size : Int)) = false := decide_eq_false (by omega)
      go_enter Tryd.func68, Tryd.ntmps68
      go_wp2
      clear hne g1
      go_loopw [3, 4] (fun _ _ w' => ∃ pos : Nat, pos ≤ s.size ∧ w' = w.iter s pos ∧ Hid (∀ k, k < pos → nameAt k (bat s k) = true)) (fun _ _ w' => s.size - w'.iterPos w.heap.size)
      case atStart => exact ⟨0, Nat.zero_le _, rfl, fun k hk => absurd hk (by omega)⟩
      case round =>
        obtain ⟨pos, hle, rfl, hd⟩ := hrel
        by_cases hp : pos < s.size
        · have hnx : ∀ ty, (Instr.next (.pointer (some ⟨w.heap.size, 0, none⟩)) true ty).run Tryd.prog (w.iter s pos) = _ := fun ty => run_next_any w s pos ty hp
          by_cases hn : nameAt pos (bat s pos) = true
          · have hnext : Hid (∀ j, j < pos + 1 → nameAt j (bat s j) = true) := fun j hj => by
              by_cases hj' : j = pos
              · rw [hj']; exact hn
              · exact hd.out j (by omega)
            have hcase : (97 ≤ bat s pos ∧ bat s pos ≤ 122) ∨ (pos ≠ 0 ∧ 48 ≤ bat s pos ∧ bat s pos ≤ 57) := by
              have hn := hn
              unfold nameAt at hn
              simp only [Bool.or_eq_true, Bool.and_eq_true, decide_eq_true_eq] at hn
              rcases hn with h | ⟨h1, h⟩
              · have := smB_yes h; omega
              · have := dgB_yes h; omega
            rw [decode_low s pos hp (nameAt_low hn)] at hnx
            clear hn hd
            rcases hcase with ⟨h1, h2⟩ | ⟨hk, h1, h2⟩
            · go_wp2_with (go_at_call 76; refine (isSmall_yes _ _ (by omega)).mono ?_; rintro e w' ⟨rfl, rfl⟩)
              go_roundw
              case rel => exact ⟨pos + 1, by omega, rfl, hnext⟩
              case measure => simp; omega
            · have g2 : ((pos : Int) == 0) = false := by simpa using hk
              go_wp2_with (first
                | (go_at_call 76; refine (isSmall_no _ _ (by omega)).mono ?_; rintro e w' ⟨rfl, rfl⟩)
                | (go_at_call 77; refine (isDigit_yes _ _ (by omega)).mono ?_; rintro e w' ⟨rfl, rfl⟩))
              go_roundw
              case rel => exact ⟨pos + 1, by omega, rfl, hnext⟩
              case measure => simp; omega
          · have Hdn : Hid (nameB s = false) := nameB_no s pos hp (by simpa using hn)
            have hcase : ¬ (97 ≤ ((Utf8.decode s pos).1 : Int) ∧ ((Utf8.decode s pos).1 : Int) ≤ 122) ∧ (pos = 0 ∨ (pos ≠ 0 ∧ ¬ (48 ≤ ((Utf8.decode s pos).1 : Int) ∧ ((Utf8.decode s pos).1 : Int) ≤ 57))) := by
              by_cases hl : bat s pos < 128
              · rw [decode_low s pos hp hl]
                refine ⟨fun h => hn (nameAt_small (by simp only at h; omega)), ?_⟩
                by_cases hk : pos = 0
                · exact .inl hk
                · exact .inr ⟨hk, fun h => hn (nameAt_dig (by simp only at h; omega) hk)⟩
              · have := (decode_hi s pos hp hl).1
                by_cases hk : pos = 0
                · exact ⟨by omega, .inl hk⟩
                · exact ⟨by omega, .inr ⟨hk, by omega⟩⟩
            generalize hg : (Utf8.decode s pos).1 = r at *
            generalize hg2 : (Utf8.decode s pos).2 = wd at *
            obtain ⟨hr1, hk⟩ := hcase
            clear hg hg2 hd hn
            rcases hk with hk | ⟨hk, hk2⟩
            · subst hk
              go_wp2_with (go_at_call 76; refine (isSmall_no _ _ hr1).mono ?_; rintro e w' ⟨rfl, rfl⟩)
              go_ret
              exact ⟨by rw [Hdn.out]; rfl, (Below.refl _ _).alloc (Nat.le_refl _) _⟩
            · have g2 : ((pos : Int) == 0) = false := by simpa using hk
              go_wp2_with (first
                | (go_at_call 76; refine (isSmall_no _ _ hr1).mono ?_; rintro e w' ⟨rfl, rfl⟩)
                | (go_at_call 77; refine (isDigit_no _ _ hk2).mono ?_; rintro e w' ⟨rfl, rfl⟩))
              go_ret
              exact ⟨by rw [Hdn.out]; rfl, (Below.refl _ _).alloc (Nat.le_refl _) _⟩
        · have hnx : ∀ ty, (Instr.next (.pointer (some ⟨w.heap.size, 0, none⟩)) true ty).run Tryd.prog (w.iter s pos) = _ := fun ty => run_next_end w s pos ty hp
          have Hdn : Hid (nameB s = true) := nameB_all s hz (by omega) fun k hk => hd.out k (by omega)
          go_wp2
          go_ret
          exact ⟨by rw [Hdn.out]; rfl, (Below.refl _ _).alloc (Nat.le_refl _) _⟩
  · have Hdn : Hid (nameB s = false) := nameB_len s (by omega)
    have hne : s.toList.isEmpty = true := emp_yes s hz
    go_enter Tryd.func68, Tryd.ntmps68
    go_wp2
    go_ret
    exact ⟨by rw [Hdn.out]; rfl, Below.refl _ _⟩

end Go.Proofs.YteciobkjfmddcaaDoor
set_option linter.unusedVariables false
namespace Go.Proofs.YteciobkjfmddcaaDoor
open Go.RowKit


def gameP (n : Int) (t : GameD) : Prop :=
  (2 ≤ n ∧ n ≤ 8) ∧ (0 ≤ t.home ∧ t.home ≤ n - 1) ∧ (0 ≤ t.away ∧ t.away ≤ n - 1) ∧ t.home ≠ t.away ∧ (0 ≤ t.st ∧ t.st ≤ 4) ∧
    ((t.st = 1 ∧ (0 ≤ t.hg ∧ t.hg ≤ 99) ∧ (0 ≤ t.ag ∧ t.ag ≤ 99)) ∨ (t.st ≠ 1 ∧ t.hg = 0 ∧ t.ag = 0))
theorem gameOk_spec (n : Int) (home away hg ag st : Int) (R : Bool) (w : World) (hR : R = true ↔ gameP n ⟨home, away, hg, ag, st⟩) :
    Calls Tryd.prog 58 #[.int .i64 n, .agg #[.int .i64 home, .int .i64 away, .int .i64 hg, .int .i64 ag, .int .i64 st]] w fun e w' => e = .returned (.bool R) ∧ Below w.heap.size w w' := by
  have hno : ¬ gameP n ⟨home, away, hg, ag, st⟩ → R = false := fun h => by
    cases R with
    | false => rfl
    | true => exact absurd (hR.1 rfl) h
  have hyes : gameP n ⟨home, away, hg, ag, st⟩ → R = true := hR.2
  have HN := Lib.hid hno
  have HY := Lib.hid hyes
  clear hR hno hyes
  by_cases h0 : 2 ≤ n ∧ n ≤ 8
  case neg =>
    obtain rfl := HN.out fun h => h0 h.1
    clear HN HY
    go_enter Tryd.func58, Tryd.ntmps58
    go_wp2_with (go_at_call 41; first | (refine (l01In_yes _ _ _ _ (by omega)).mono ?_; rintro e w' ⟨rfl, rfl⟩) | (refine (l01In_no _ _ _ _ (by omega)).mono ?_; rintro e w' ⟨rfl, rfl⟩))
    go_ret
    exact ⟨rfl, (Below.refl _ _).alloc (Nat.le_refl _) _⟩
  by_cases h1 : 0 ≤ home ∧ home ≤ n - 1
  case neg =>
    obtain rfl := HN.out fun h => h1 h.2.1
    clear HN HY
    go_enter Tryd.func58, Tryd.ntmps58
    go_wp2_with (go_at_call 41; first | (refine (l01In_yes _ _ _ _ (by omega)).mono ?_; rintro e w' ⟨rfl, rfl⟩) | (refine (l01In_no _ _ _ _ (by omega)).mono ?_; rintro e w' ⟨rfl, rfl⟩))
    go_ret
    exact ⟨rfl, (Below.refl _ _).alloc (Nat.le_refl _) _⟩
  by_cases h2 : 0 ≤ away ∧ away ≤ n - 1
  case neg =>
    obtain rfl := HN.out fun h => h2 h.2.2.1
    clear HN HY
    go_enter Tryd.func58, Tryd.ntmps58
    go_wp2_with (go_at_call 41; first | (refine (l01In_yes _ _ _ _ (by omega)).mono ?_; rintro e w' ⟨rfl, rfl⟩) | (refine (l01In_no _ _ _ _ (by omega)).mono ?_; rintro e w' ⟨rfl, rfl⟩))
    go_ret
    exact ⟨rfl, (Below.refl _ _).alloc (Nat.le_refl _) _⟩
  by_cases h3 : home = away
  · obtain rfl := HN.out fun h => h.2.2.2.1 h3
    have g1 : (home == away) = true := by simpa using h3
    have H3 := Lib.hid h3
    clear HN HY h3
    go_enter Tryd.func58, Tryd.ntmps58
    go_wp2_with (go_at_call 41; first | (refine (l01In_yes _ _ _ _ (by omega)).mono ?_; rintro e w' ⟨rfl, rfl⟩) | (refine (l01In_no _ _ _ _ (by omega)).mono ?_; rintro e w' ⟨rfl, rfl⟩))
    go_ret
    exact ⟨rfl, (Below.refl _ _).alloc (Nat.le_refl _) _⟩
  have g1 : (home == away) = false := beq_eq_false_iff_ne.2 h3
  by_cases h4 : 0 ≤ st ∧ st ≤ 4
  case neg =>
    obtain rfl := HN.out fun h => h4 h.2.2.2.2.1
    clear HN HY h3
    go_enter Tryd.func58, Tryd.ntmps58
    go_wp2_with (go_at_call 41; first | (refine (l01In_yes _ _ _ _ (by omega)).mono ?_; rintro e w' ⟨rfl, rfl⟩) | (refine (l01In_no _ _ _ _ (by omega)).mono ?_; rintro e w' ⟨rfl, rfl⟩))
    go_ret
    exact ⟨rfl, (Below.refl _ _).alloc (Nat.le_refl _) _⟩
  by_cases h5 : st = 1
  · by_cases h6 : 0 ≤ hg ∧ hg ≤ 99
    case neg =>
      obtain rfl := HN.out fun h => h.2.2.2.2.2.elim (fun h => h6 h.2.1) fun h => h.1 h5
      subst h5
      clear HN HY h3
      go_enter Tryd.func58, Tryd.ntmps58
      go_wp2_with (go_at_call 41; first | (refine (l01In_yes _ _ _ _ (by omega)).mono ?_; rintro e w' ⟨rfl, rfl⟩) | (refine (l01In_no _ _ _ _ (by omega)).mono ?_; rintro e w' ⟨rfl, rfl⟩))
      go_ret
      exact ⟨rfl, (Below.refl _ _).alloc (Nat.le_refl _) _⟩
    by_cases h7 : 0 ≤ ag ∧ ag ≤ 99
    case neg =>
      obtain rfl := HN.out fun h => h.2.2.2.2.2.elim (fun h => h7 h.2.2) fun h => h.1 h5
      subst h5
      clear HN HY h3
      go_enter Tryd.func58, Tryd.ntmps58
      go_wp2_with (go_at_call 41; first | (refine (l01In_yes _ _ _ _ (by omega)).mono ?_; rintro e w' ⟨rfl, rfl⟩) | (refine (l01In_no _ _ _ _ (by omega)).mono ?_; rintro e w' ⟨rfl, rfl⟩))
      go_ret
      exact ⟨rfl, (Below.refl _ _).alloc (Nat.le_refl _) _⟩
    obtain rfl := HY.out ⟨h0, h1, h2, h3, h4, .inl ⟨h5, h6, h7⟩⟩
    subst h5
    clear HN HY h3
    go_enter Tryd.func58, Tryd.ntmps58
    go_wp2_with (go_at_call 41; first | (refine (l01In_yes _ _ _ _ (by omega)).mono ?_; rintro e w' ⟨rfl, rfl⟩) | (refine (l01In_no _ _ _ _ (by omega)).mono ?_; rintro e w' ⟨rfl, rfl⟩))
    go_ret
    exact ⟨rfl, (Below.refl _ _).alloc (Nat.le_refl _) _⟩
  have g2 : (st != 1) = true := bne_iff_ne.2 h5
  by_cases h6 : hg = 0
  case neg =>
    obtain rfl := HN.out fun h => h.2.2.2.2.2.elim (fun h => h5 h.1) fun h => h6 h.2.1
    have g3 : (hg == 0) = false := beq_eq_false_iff_ne.2 h6
    clear HN HY h3 h5 h6
    go_enter Tryd.func58, Tryd.ntmps58
    go_wp2_with (go_at_call 41; first | (refine (l01In_yes _ _ _ _ (by omega)).mono ?_; rintro e w' ⟨rfl, rfl⟩) | (refine (l01In_no _ _ _ _ (by omega)).mono ?_; rintro e w' ⟨rfl, rfl⟩))
    go_ret
    exact ⟨rfl, (Below.refl _ _).alloc (Nat.le_refl _) _⟩
  subst h6
  by_cases h7 : ag = 0
  · obtain rfl := HY.out ⟨h0, h1, h2, h3, h4, .inr ⟨h5, rfl, h7⟩⟩
    subst h7
    clear HN HY h3 h5
    go_enter Tryd.func58, Tryd.ntmps58
    go_wp2_with (go_at_call 41; first | (refine (l01In_yes _ _ _ _ (by omega)).mono ?_; rintro e w' ⟨rfl, rfl⟩) | (refine (l01In_no _ _ _ _ (by omega)).mono ?_; rintro e w' ⟨rfl, rfl⟩))
    go_ret
    exact ⟨rfl, (Below.refl _ _).alloc (Nat.le_refl _) _⟩
  · obtain rfl := HN.out fun h => h.2.2.2.2.2.elim (fun h => h5 h.1) fun h => h7 h.2.2
    have g3 : (ag == 0) = false := beq_eq_false_iff_ne.2 h7
    clear HN HY h3 h5 h7
    go_enter Tryd.func58, Tryd.ntmps58
    go_wp2_with (go_at_call 41; first | (refine (l01In_yes _ _ _ _ (by omega)).mono ?_; rintro e w' ⟨rfl, rfl⟩) | (refine (l01In_no _ _ _ _ (by omega)).mono ?_; rintro e w' ⟨rfl, rfl⟩))
    go_ret
    exact ⟨rfl, (Below.refl _ _).alloc (Nat.le_refl _) _⟩
def goalsD (t : GameD) : Int × Int × Bool := if t.st = 1 then (t.hg, t.ag, true) else if t.st = 2 then (3, 0, true) else if t.st = 3 then (0, 3, true) else (0, 0, false)
def outcomeD (t : GameD) : Int := if (goalsD t).2.2 = true then (if (goalsD t).2.1 < (goalsD t).1 then 1 else if (goalsD t).1 = (goalsD t).2.1 then 2 else 3) else 0
def playD (t : GameD) (o : Int) : GameD := if 1 ≤ o ∧ o ≤ 3 then ⟨t.home, t.away, if o = 1 then 1 else 0, if o = 3 then 1 else 0, 1⟩ else t
end Go.Proofs.YteciobkjfmddcaaDoor
set_option linter.unusedVariables false
namespace Go.Proofs.YteciobkjfmddcaaDoor
open Go.RowKit

theorem wpList_pushL {P : Program} {w : World} {ops : Array Oper} {rest : List Oper} {o : Oper} {a : Act} {Q : Exit → Act → World → Prop} (hgd : o.guard = none) (s x : Operand) (t : TypeId)
    (ho : o.op = .call { callee := .builtin .append, args := #[s, x], argTypes := #[t, t] })
    (base : Nat) (e : TypeId) {i : TypeInfo} {z : Value} {size bytes : Nat} (ht : P.underlying t = some (.slice e)) (hi : P.info? e = some i) (hz : i.zero = some z)
    (hsize : i.size = size) (hby : i.bytes = bytes) (hzs : z.cells.size = size) (hsz : 0 < size)
    (cs : List Value) (hcs : cs.length = size) (h1 : ∀ u ∈ cs, u.oneCell' = true)
    {v : Value} {n : Nat} {xs : List Value} (hs : a.eval s = v) (hx : a.eval x = .slice (some ⟨w.heap.size, 0, none⟩) 1 1) (hown : w.ownsRow base e size v n xs)
    (h63 : n + 1 ≤ maxLen) (hbytes : (n + 1) * bytes ≤ 140737488355328) (hbase : base ≤ w.heap.size)
    (h : ∀ g cap w', w'.ownsRow base e size (.slice (some ⟨g, 0, none⟩) (n + 1) cap) (n + 1) (xs ++ cs) → w.grownBy w' v.ownBlock → (v.ownBlock = some g ∨ w.heap.size ≤ g) → g < w'.heap.size →
      wpList P ops Q rest (a.put o.dst (.slice (some ⟨g, 0, none⟩) (n + 1) cap)) w') : wpList P ops Q (o :: rest) a (w.alloc (.cells cs.toArray e)) := by
  refine wpList_append_lies _ hgd s x t ho base e i z size bytes ht hi hz hsize hby hzs hsz v n xs hs (hown.alloc _) ⟨w.heap.size, 0, none⟩ 1 1 cs hx (by simpa using hcs)
    (by simpa using World.news_of_block (cs := cs.toArray) (heap_alloc_new w (.cells cs.toArray e))) h1 (by omega) h63 hbytes (by simp; omega) _ rfl ?_
  intro g cap w' h2 h3 hat hlt
  have hg0 := World.grownBy_alloc w (.cells cs.toArray e) v.ownBlock
  refine h g cap w' h2 ⟨h3.os.trans hg0.os, h3.tape.trans hg0.tape, h3.output.trans hg0.output, Nat.le_trans hg0.size h3.size, fun k hk hne => ?_⟩ ?_ hlt
  · rw [h3.block k (Nat.lt_of_lt_of_le hk hg0.size) hne, hg0.block k hk hne]
  · rcases hat with h5 | h5
    · exact .inl h5
    · right; rw [h5]; simp
theorem news_of_row {w : World} {b m c : Nat} {g : Nat → Int} (h : IntRow w (.slice (some ⟨b, 0, none⟩) m c) m g) :
    ∀ j u, ((List.range m).map fun j => Value.int .i64 (g j))[j]? = some u → w.cell? ((⟨b, 0, none⟩ : Addr).add j) = some u := by
  intro j u hu
  simp only [List.getElem?_map] at hu
  by_cases hj : j < m
  · rw [List.getElem?_range hj] at hu
    simp only [Option.map_some, Option.some.injEq] at hu
    subst hu
    have hadd : (⟨b, 0, none⟩ : Addr).add j = ⟨b, j, none⟩ := by unfold Addr.add; split <;> simp_all
    rw [hadd]
    rcases h with ⟨_, _, _, h1⟩ | ⟨b', off, c', he, _, _, hc, _⟩
    · omega
    · simp only [Value.slice.injEq, Option.some.injEq, Addr.mk.injEq, and_true] at he
      obtain ⟨⟨rfl, rfl⟩, _⟩ := he
      simpa using hc j hj
  · rw [List.getElem?_eq_none (by simp; omega)] at hu; cases hu
theorem ones_row {m : Nat} {g : Nat → Int} : ∀ u ∈ (List.range m).map (fun j => Value.int .i64 (g j)), u.oneCell' = true := by
  intro u hu; simp only [List.mem_map] at hu; obtain ⟨_, _, rfl⟩ := hu; rfl
theorem wpList_cloneI {P : Program} {w : World} {ops : Array Oper} {rest : List Oper} {o : Oper} {a : Act} {Q : Exit → Act → World → Prop} (hgd : o.guard = none) (s x : Operand) (t : TypeId)
    (ho : o.op = .call { callee := .builtin .append, args := #[s, x], argTypes := #[t, t] })
    (e : TypeId) {i : TypeInfo} (ht : P.underlying t = some (.slice e)) (hi : P.info? e = some i) (hz : i.zero = some (.int .i64 0)) (hsize : i.size = 1) (hby : i.bytes = 8)
    {v : Value} {m : Nat} {g : Nat → Int} (hs : a.eval s = .slice (some ⟨w.heap.size, 0, none⟩) 0 0) (hx : a.eval x = v) (hrow : IntRow w v m g) (h0 : 0 < m) (hm : m ≤ 1048576)
    (h : ∀ gg cap w', w'.ownsRow w.heap.size e 1 (.slice (some ⟨gg, 0, none⟩) m cap) m ((List.range m).map fun j => Value.int .i64 (g j)) → IntRow w' (.slice (some ⟨gg, 0, none⟩) m cap) m g → Below w.heap.size w w' → w.heap.size ≤ gg → gg < w'.heap.size →
      wpList P ops Q rest (a.put o.dst (.slice (some ⟨gg, 0, none⟩) m cap)) w') : wpList P ops Q (o :: rest) a (w.alloc (.cells #[] e)) := by
  rcases hrow with ⟨_, _, _, h1⟩ | ⟨b, off, c, rfl, _, _, hc, _⟩
  · omega
  have hown : (w.alloc (.cells #[] e)).ownsRow w.heap.size e 1 (.slice (some ⟨w.heap.size, 0, none⟩) 0 0) 0 [] := World.ownsRow_lit w #[] 0 (Nat.le_refl _) (by decide) rfl
  refine wpList_append_lies _ hgd s x t ho w.heap.size e i (.int .i64 0) 1 8 ht hi hz hsize hby rfl (by decide) (.slice (some ⟨w.heap.size, 0, none⟩) 0 0) 0 [] hs hown ⟨b, off, none⟩ m c ((List.range m).map fun j => Value.int .i64 (g j)) hx (by simp) ?_
    (by intro u hu; simp only [List.mem_map] at hu; obtain ⟨_, _, rfl⟩ := hu; rfl) h0 (by unfold maxLen; omega) (by omega) (by simp) _ rfl ?_
  · intro j u hu
    simp only [List.getElem?_map] at hu
    by_cases hj : j < m
    · rw [List.getElem?_range hj] at hu
      simp only [Option.map_some, Option.some.injEq] at hu
      subst hu
      have hadd : (⟨b, off, none⟩ : Addr).add j = ⟨b, off + j, none⟩ := by unfold Addr.add; split <;> simp_all
      rw [hadd]
      exact (((Below.refl _ w).alloc (Nat.le_refl _) (.cells #[] e)).cell (p := ⟨b, off + j, none⟩) (World.block_lt_of_cell? w _ (hc j hj))).trans (hc j hj)
    · rw [List.getElem?_eq_none (by simp; omega)] at hu; cases hu
  · intro gg cap w' ho' hg' hat hlt
    simp only [Nat.zero_add, List.nil_append] at ho' ⊢
    refine h gg cap w' ho' (IntRow.of_owns ho' (by omega) fun j hj => by simp [hj]) (((Below.refl _ w).alloc (Nat.le_refl _) _).grown hg' (by simp) (fun k hk => by simp [Value.ownBlock] at hk; omega)) ?_ hlt
    rcases hat with h5 | h5
    · simp [Value.ownBlock] at h5; omega
    · rw [h5]; simp
end Go.Proofs.YteciobkjfmddcaaDoor
set_option linter.unusedVariables false
namespace Go.Proofs.YteciobkjfmddcaaDoor
open Go.RowKit

def atG (g : Nat → GameD) (h a : Int) (i : Nat) : Bool := (g i).home == h && (g i).away == a
theorem game_cells {w : World} {b o : Nat} {x : GameD} (h : CellsAt w b o x.cells) : w.cell? ⟨b, o, none⟩ = some (.int .i64 x.home) ∧ w.cell? ⟨b, o + 1, none⟩ = some (.int .i64 x.away) ∧ w.cell? ⟨b, o + 2, none⟩ = some (.int .i64 x.hg) ∧
    w.cell? ⟨b, o + 3, none⟩ = some (.int .i64 x.ag) ∧ w.cell? ⟨b, o + 4, none⟩ = some (.int .i64 x.st) := ⟨h.2 0 _ rfl, h.2 1 _ rfl, h.2 2 _ rfl, h.2 3 _ rfl, h.2 4 _ rfl⟩
theorem gameOf_spec (v : Value) (n : Nat) (g : Nat → GameD) (h a : Int) (w : World) (hv : GameRow w v n g) :
    Calls Tryd.prog 59 #[v, .int .i64 h, .int .i64 a] w fun e w' => e = .returned (.int .i64 (firstI (atG g h a) n 0)) ∧ Below w.heap.size w w' := by
  obtain ⟨aa, cap, rfl, hn, hc⟩ := hv.form
  have HV := Lib.hid hc
  clear hc hv
  generalize hr : firstI (atG g h a) n 0 = R
  have HR := Lib.hid hr
  clear hr
  go_enter Tryd.func59, Tryd.ntmps59
  go_wp2
  go_loopw [11] (fun i wr => ∃ k : Nat, k ≤ n ∧ i = .int .i64 k ∧ Hid (firstI (atG g h a) (n - k) k = R) ∧ Below w.heap.size w wr) (fun i _ => n - (RowKit.intOf i).toNat)
  case atStart => exact ⟨0, Nat.zero_le _, rfl, HR.out, Below.refl _ _⟩
  case round =>
    obtain ⟨k, hk, rfl, hp, hb⟩ := hrel
    by_cases hlt : k < n
    · obtain ⟨b, off, rfl, hcap, hc⟩ := HV.out (by omega)
      have hstep := firstI_step (p := atG g h a) hlt
      rw [hp.out] at hstep
      have HY := Lib.hid (fun (e : atG g h a k = true) => hstep.trans (if_pos e))
      have HN := Lib.hid (fun (e : atG g h a k = false) => hstep.trans (if_neg (by rw [e]; simp)))
      have hq := (hc k hlt).belowB hb (hc k hlt).1
      clear hstep
      generalize hx : g k = x at *
      have Hx := Lib.hid hx
      obtain ⟨c0, c1, c2, c3, c4⟩ := game_cells hq
      have hsz := hb.size
      have hb2 := hb.alloc hsz (.cells #[.int .i64 x.home, .int .i64 x.away, .int .i64 x.hg, .int .i64 x.ag, .int .i64 x.st] 76)
      clear hc HV hp HR hq hx
      by_cases h1 : x.home = h
      · have g1 : (x.home == h) = true := by simpa using h1
        by_cases h2 : x.away = a
        · have g2 : (x.away == a) = true := by simpa using h2
          obtain rfl := HY.out (by unfold atG; rw [Hx.out, g1, g2]; rfl)
          clear HY HN
          have H1 := Lib.hid h1
          have H2 := Lib.hid h2
          clear h1 h2
          go_wp2
          go_ret
          exact ⟨rfl, hb2⟩
        · have g2 : (x.away == a) = false := beq_eq_false_iff_ne.2 h2
          have HS := Lib.hid (HN.out (by unfold atG; rw [Hx.out, g1, g2]; rfl)).symm
          have H1 := Lib.hid h1
          clear HY HN h1 h2
          go_wp2
          go_roundw
          case rel => exact ⟨k + 1, by omega, by go_num, HS.out, hb2⟩
          case measure => simp [RowKit.intOf]; omega
      · have g1 : (x.home == h) = false := beq_eq_false_iff_ne.2 h1
        have HS := Lib.hid (HN.out (by unfold atG; rw [Hx.out, g1]; rfl)).symm
        clear HY HN h1
        go_wp2
        go_roundw
        case rel => exact ⟨k + 1, by omega, by go_num, HS.out, hb2⟩
        case measure => simp [RowKit.intOf]; omega
    · obtain rfl : k = n := by omega
      have hR : R = -1 := by rw [← hp.out, Nat.sub_self]; rfl
      subst hR
      clear hp HR
      go_wp2
      go_ret
      exact ⟨rfl, hb⟩
def betweenG (a b : Int) (t : GameD) : Bool := (t.home == a && t.away == b) || (t.home == b && t.away == a)
end Go.Proofs.YteciobkjfmddcaaDoor
set_option linter.unusedVariables false
namespace Go.Proofs.YteciobkjfmddcaaDoor
open Go.RowKit

def seasonP (n : Int) (m : Nat) (g : Nat → GameD) : Prop := m ≤ 60 ∧ ∀ i, i < m → gameP n (g i) ∧ firstI (atG g (g i).home (g i).away) m 0 = (i : Int)
theorem seasonOk_spec (n : Int) (v : Value) (m : Nat) (g : Nat → GameD) (R : Bool) (w : World) (hR : R = true ↔ seasonP n m g) (hv : GameRow w v m g) :
    Calls Tryd.prog 40 #[.int .i64 n, v] w fun e w' => e = .returned (.bool R) ∧ Below w.heap.size w w' := by
  obtain ⟨aa, cap, rfl, hn, hc⟩ := hv.form
  have HV := Lib.hid hc
  have HG := Lib.hid hv
  have HR := Lib.hid hR
  clear hc hv hR
  by_cases h60 : 60 < m
  · have g0 : decide (60 < (m : Int)) = true := decide_eq_true (by omega)
    have g0' : decide (60 < m) = true := decide_eq_true h60
    have hf : R = false := by
      cases R with
      | false => rfl
      | true => have := (HR.out.1 rfl).1; omega
    subst hf
    clear HR
    go_enter Tryd.func40, Tryd.ntmps40
    go_wp2
    go_ret
    exact ⟨rfl, Below.refl _ _⟩
  have g0 : decide (60 < (m : Int)) = false := decide_eq_false (by omega)
  have g0' : decide (60 < m) = false := decide_eq_false h60
  have HNO : Hid (∀ k, k < m → ¬ (gameP n (g k) ∧ firstI (atG g (g k).home (g k).away) m 0 = (k : Int)) → R = false) := fun k hk h => by
    cases R with
    | false => rfl
    | true => exact absurd ((HR.out.1 rfl).2 k hk) h
  have HYES : Hid ((∀ i, i < m → gameP n (g i) ∧ firstI (atG g (g i).home (g i).away) m 0 = (i : Int)) → R = true) := fun h => HR.out.2 ⟨by omega, h⟩
  clear HR
  go_enter Tryd.func40, Tryd.ntmps40
  go_wp2
  go_loopw [12] (fun i wr => ∃ k : Nat, k ≤ m ∧ i = .int .i64 k ∧ Hid (∀ i, i < k → gameP n (g i) ∧ firstI (atG g (g i).home (g i).away) m 0 = (i : Int)) ∧ Below w.heap.size w wr) (fun i _ => m - (RowKit.intOf i).toNat)
  case atStart => exact ⟨0, Nat.zero_le _, rfl, fun i hi => absurd hi (by omega), Below.refl _ _⟩
  case round =>
    obtain ⟨k, hk, rfl, hok, hb⟩ := hrel
    by_cases hlt : k < m
    · obtain ⟨b, off, rfl, hcap, hc⟩ := HV.out (by omega)
      have hq := (hc k hlt).belowB hb (hc k hlt).1
      have HS : Hid ((gameP n (g k) ∧ firstI (atG g (g k).home (g k).away) m 0 = (k : Int)) → ∀ i, i < k + 1 → gameP n (g i) ∧ firstI (atG g (g i).home (g i).away) m 0 = (i : Int)) := fun h i hi => by
        by_cases hik : i = k
        · subst hik; exact h
        · exact hok.out i (by omega)
      have HN := Lib.hid (HNO.out k hlt)
      have CG := Lib.hid (fun w1 h1 => gameOf_spec (.slice (some ⟨b, off, none⟩) m cap) m g (g k).home (g k).away w1 h1)
      generalize firstI (atG g (g k).home (g k).away) m 0 = fi at *
      generalize g k = x at *
      obtain ⟨c0, c1, c2, c3, c4⟩ := game_cells hq
      have hsz := hb.size
      clear hc HV hq hok HNO HYES
      obtain ⟨r, hr⟩ : ∃ r : Bool, r = true ↔ gameP n x := by
        by_cases h : gameP n x
        · exact ⟨true, fun _ => h, fun _ => rfl⟩
        · exact ⟨false, (fun e => by cases e), fun e => absurd e h⟩
      have C := Lib.hid (fun w1 => gameOk_spec n x.home x.away x.hg x.ag x.st r w1 hr)
      have HR2 := Lib.hid hr
      clear hr
      cases r with
      | false =>
        have hf : R = false := HN.out fun h => by have := HR2.out.2 h.1; cases this
        subst hf
        clear HN HS HR2
        go_wp2_with fail
        refine (C.out _).mono ?_
        rintro e w2 ⟨rfl, b2⟩
        have hb2 := hb.trans ((below_prev b2).mono hsz)
        go_wp2
        go_ret
        exact ⟨rfl, hb2⟩
      | true =>
        go_wp2_with fail
        refine (C.out _).mono ?_
        rintro e w2 ⟨rfl, b2⟩
        have bx := BoxN.made b2 (B := wr.heap.size) rfl
        have d0 := bx.2 0 _ rfl
        have d1 := bx.2 1 _ rfl
        have hb2 := hb.trans ((below_prev b2).mono hsz)
        have hG2 := Lib.hid (HG.out.below hb2 (Nat.le_refl _))
        clear b2 bx c0 c1 c2 c3 c4 C
        go_wp2_with fail
        refine (CG.out _ hG2.out).mono ?_
        rintro e w3 ⟨rfl, b3⟩
        have hb3 := hb2.trans (b3.mono hb2.size)
        clear b3 CG hG2 d0 d1
        by_cases hfi : fi = (k : Int)
        · have HX := Lib.hid (HS.out ⟨HR2.out.1 (by simp), hfi⟩)
          subst hfi
          clear HN HS HR2
          go_wp2
          go_roundw
          case rel => exact ⟨k + 1, by omega, by go_num, HX.out, hb3⟩
          case measure => simp [RowKit.intOf]; omega
        · have hf : R = false := HN.out fun h => hfi h.2
          subst hf
          have g1 : (fi != (k : Int)) = true := bne_iff_ne.2 hfi
          have HF := Lib.hid hfi
          clear HN HS HR2 hfi
          go_wp2
          go_ret
          exact ⟨rfl, hb3⟩
    · obtain rfl : k = m := by omega
      obtain rfl := HYES.out hok.out
      clear HNO HYES hok
      go_wp2
      go_ret
      exact ⟨rfl, hb⟩
end Go.Proofs.YteciobkjfmddcaaDoor
set_option linter.unusedVariables false
namespace Go.Proofs.YteciobkjfmddcaaDoor
open Go.RowKit

def addW (a b : RowD) : RowD := ⟨wrap64 (a.played + b.played), wrap64 (a.wins + b.wins), wrap64 (a.draws + b.draws), wrap64 (a.losses + b.losses), wrap64 (a.scored + b.scored), wrap64 (a.against + b.against), wrap64 (a.points + b.points)⟩
def zeroR : RowD := ⟨0, 0, 0, 0, 0, 0, 0⟩
theorem row_cells {w : World} {b o : Nat} {x : RowD} (h : CellsAt w b o x.cells) : w.cell? ⟨b, o, none⟩ = some (.int .i64 x.played) ∧ w.cell? ⟨b, o + 1, none⟩ = some (.int .i64 x.wins) ∧ w.cell? ⟨b, o + 2, none⟩ = some (.int .i64 x.draws) ∧ w.cell? ⟨b, o + 3, none⟩ = some (.int .i64 x.losses) ∧ w.cell? ⟨b, o + 4, none⟩ = some (.int .i64 x.scored) ∧ w.cell? ⟨b, o + 5, none⟩ = some (.int .i64 x.against) ∧ w.cell? ⟨b, o + 6, none⟩ = some (.int .i64 x.points) := ⟨h.2 0 _ rfl, h.2 1 _ rfl, h.2 2 _ rfl, h.2 3 _ rfl, h.2 4 _ rfl, h.2 5 _ rfl, h.2 6 _ rfl⟩

theorem cell_at_alloc {w : World} {b i : Nat} {v : Value} (h : w.cell? ⟨b, i, none⟩ = some v) (o : Obj) : (w.alloc o).cell? ⟨b, i, none⟩ = some v := by
  have hb := World.block_lt_of_cell? w _ h
  exact (((Below.refl w.heap.size w).alloc (Nat.le_refl _) o).cell (p := ⟨b, i, none⟩) hb).trans h

def playedN (g : Nat → RowD) : Nat → Int
  | 0 => 0
  | k + 1 => wrap64 (playedN g k + (g k).played)
def leadP (g : Nat → RowD) : Nat → Int
  | 0 => -1
  | k + 1 => if leadP g k < 0 then (k : Int) else if (g (leadP g k).toNat).points < (g k).points then (k : Int) else leadP g k
theorem leadP_lt (g : Nat → RowD) : ∀ k, leadP g k = -1 ∨ (0 ≤ leadP g k ∧ leadP g k < k)
  | 0 => .inl rfl
  | k + 1 => by
    unfold leadP
    have := leadP_lt g k
    split
    · right; omega
    · split <;> (right; omega)
end Go.Proofs.YteciobkjfmddcaaDoor
set_option linter.unusedVariables false
namespace Go.Proofs.YteciobkjfmddcaaDoor
open Go.RowKit
theorem boolT {R : Bool} {p : Prop} (h : R = true ↔ p) (hp : p) : R = true := h.2 hp
theorem boolF {R : Bool} {p : Prop} (h : R = true ↔ p) (hp : ¬ p) : R = false := by
  cases R with
  | false => rfl
  | true => exact absurd (h.1 rfl) hp

def sumR (g : Nat → RowD) : Nat → RowD
  | 0 => zeroR
  | k + 1 => addW (sumR g k) (g k)
def balR (x : RowD) : Prop := wrap64 (wrap64 (x.wins + x.draws) + x.losses) = x.played
def balP (n : Nat) (g : Nat → RowD) : Prop := (∀ i, i < n → balR (g i)) ∧ (sumR g n).wins = (sumR g n).losses ∧ (sumR g n).draws.tmod 2 = 0 ∧ (sumR g n).scored = (sumR g n).against
theorem BoxF.row7 {w : World} {B : Nat} {x y : RowD} (h : BoxF w B x.cells) :
    BoxF (((((((w.setCell ⟨B, 0, none⟩ (Value.int .i64 y.played)).setCell ⟨B, 1, none⟩ (Value.int .i64 y.wins)).setCell ⟨B, 2, none⟩ (Value.int .i64 y.draws)).setCell ⟨B, 3, none⟩ (Value.int .i64 y.losses)).setCell ⟨B, 4, none⟩ (Value.int .i64 y.scored)).setCell ⟨B, 5, none⟩ (Value.int .i64 y.against)).setCell ⟨B, 6, none⟩ (Value.int .i64 y.points)) B y.cells := by
  have h0 := h.set 0 (Value.int .i64 y.played) (by simp [RowD.cells])
  have h1 := h0.set 1 (Value.int .i64 y.wins) (by simp [RowD.cells])
  have h2 := h1.set 2 (Value.int .i64 y.draws) (by simp [RowD.cells])
  have h3 := h2.set 3 (Value.int .i64 y.losses) (by simp [RowD.cells])
  have h4 := h3.set 4 (Value.int .i64 y.scored) (by simp [RowD.cells])
  have h5 := h4.set 5 (Value.int .i64 y.against) (by simp [RowD.cells])
  have h6 := h5.set 6 (Value.int .i64 y.points) (by simp [RowD.cells])
  exact h6
theorem boxF_row {w : World} {B : Nat} {x : RowD} (h : BoxF w B x.cells) : (w.cell? ⟨B, 0, none⟩ = some (.int .i64 x.played) ∧ w.frozen? ⟨B, 0, none⟩ = false) ∧ (w.cell? ⟨B, 1, none⟩ = some (.int .i64 x.wins) ∧ w.frozen? ⟨B, 1, none⟩ = false) ∧ (w.cell? ⟨B, 2, none⟩ = some (.int .i64 x.draws) ∧ w.frozen? ⟨B, 2, none⟩ = false) ∧ (w.cell? ⟨B, 3, none⟩ = some (.int .i64 x.losses) ∧ w.frozen? ⟨B, 3, none⟩ = false) ∧ (w.cell? ⟨B, 4, none⟩ = some (.int .i64 x.scored) ∧ w.frozen? ⟨B, 4, none⟩ = false) ∧ (w.cell? ⟨B, 5, none⟩ = some (.int .i64 x.against) ∧ w.frozen? ⟨B, 5, none⟩ = false) ∧ (w.cell? ⟨B, 6, none⟩ = some (.int .i64 x.points) ∧ w.frozen? ⟨B, 6, none⟩ = false) := ⟨h.2 0 _ rfl, h.2 1 _ rfl, h.2 2 _ rfl, h.2 3 _ rfl, h.2 4 _ rfl, h.2 5 _ rfl, h.2 6 _ rfl⟩

theorem below_row7 {a w : World} {B0 B : Nat} {y : RowD} (h : Below B0 a w) (hB : B0 ≤ B) :
    Below B0 a (((((((w.setCell ⟨B, 0, none⟩ (Value.int .i64 y.played)).setCell ⟨B, 1, none⟩ (Value.int .i64 y.wins)).setCell ⟨B, 2, none⟩ (Value.int .i64 y.draws)).setCell ⟨B, 3, none⟩ (Value.int .i64 y.losses)).setCell ⟨B, 4, none⟩ (Value.int .i64 y.scored)).setCell ⟨B, 5, none⟩ (Value.int .i64 y.against)).setCell ⟨B, 6, none⟩ (Value.int .i64 y.points)) := by
  exact (Below.setCell (Below.setCell (Below.setCell (Below.setCell (Below.setCell (Below.setCell (Below.setCell h (p := ⟨B, 0, none⟩) hB (Value.int .i64 y.played)) (p := ⟨B, 1, none⟩) hB (Value.int .i64 y.wins)) (p := ⟨B, 2, none⟩) hB (Value.int .i64 y.draws)) (p := ⟨B, 3, none⟩) hB (Value.int .i64 y.losses)) (p := ⟨B, 4, none⟩) hB (Value.int .i64 y.scored)) (p := ⟨B, 5, none⟩) hB (Value.int .i64 y.against)) (p := ⟨B, 6, none⟩) hB (Value.int .i64 y.points))
end Go.Proofs.YteciobkjfmddcaaDoor
set_option linter.unusedVariables false
namespace Go.Proofs.YteciobkjfmddcaaDoor
section
variable {P : Program} {ops : Array Oper} {Q : Exit → Act → World → Prop} {md : Region.Mode} {S : Array Bool → World → Prop}

def Await (P : Program) (md : Region.Mode) (ops : Array Oper) (Q : Exit → Act → World → Prop) (S : Array Bool → World → Prop) : Nat → Array Bool → Act → World → Prop
  | 0, l, a, w => Region.ready md ops l = [] ∧ Q .normal a w
  | n + 1, l, a, w => (Region.ready md ops l = [] → Q .normal a w) ∧
      ∀ i ∈ Region.ready md ops l, wpOp P ops Q i (fun a' w' => S (l.setIfInBounds i true) w' ∧ Await P md ops Q S n (l.setIfInBounds i true) a' w') a w
theorem Await.any : ∀ (n : Nat) (l : Array Bool) (a : Act) (w : World), Await P md ops Q S n l a w → wpAny P md ops Q n l a w
  | 0, _, _, _, h => h
  | n + 1, _, _, _, h => ⟨h.1, fun i hi => wpOp_mono (fun a' w' h' => Await.any n _ a' w' h'.2) (h.2 i hi)⟩
def Until (st : Nat) (F : World → Prop) (l : Array Bool) (w : World) : Prop := l.getD st true = false → F w
theorem getD_set {l : Array Bool} {j k : Nat} (h : (l.setIfInBounds j true).getD k true = false) : l.getD k true = false := by
  by_cases e : j = k
  · subst e
    by_cases hj : j < l.size
    · rw [Array.getD_eq_getD_getElem?, Array.getElem?_setIfInBounds_self_of_lt hj] at h; cases h
    · rw [Array.setIfInBounds_eq_of_size_le (by omega)] at h; exact h
  · rw [getD_set_ne true e] at h; exact h
def waitsFor (md : Region.Mode) (ops : Array Oper) (j i : Nat) : Bool := match ops[j]? with
  | some o => o.after.any fun e => Region.binds md e && e.on == i
  | none => false
theorem waits_not_ready {j i : Nat} {l : Array Bool} (h : waitsFor md ops j i = true) (hi : l.getD i false = false) : j ∉ Region.ready md ops l := fun hj => by
  obtain ⟨_, oj, hoj, hall⟩ := mem_ready.1 hj
  unfold waitsFor at h
  rw [hoj] at h
  simp only [Array.any_eq_true', Bool.and_eq_true, beq_iff_eq] at h
  obtain ⟨e, he, hb, heq⟩ := h
  have := hall e he hb
  rw [heq] at this
  rw [hi] at this
  cases this
theorem Await.first {st p : Nat} {F : World → Prop} {G : World → Prop} {i : Nat} {oi : Oper} {v : Value} (hist : i ≠ st) (hi : ops[i]? = some oi) (hsel : Region.noSelect ops = true)
    (hQ : ∀ c a w, Q (.panic c) (a.put oi.dst v) w → Q (.panic c) a w) (hFG : (∀ w, F w → G w) ∧ waitsFor md ops p i = true ∧ waitsFor md ops st p = true ∧ p < ops.size ∧ i < ops.size ∨ ∀ w, G w) :
    ∀ (n : Nat) (l : Array Bool) (a : Act) (w : World), l.size = ops.size →
      (∀ j oj, ops[j]? = some oj → j ≠ i → l.getD j true = false → (∀ e ∈ oj.after, Region.binds md e = true → e.on ≠ i) → oi.apart ops oj = true) →
      i ∈ Region.ready md ops l → YieldsIf P ops G oi v a → Until st F l w → ((∀ w, G w) ∨ (l.getD p true = false ∧ l.getD st true = false)) →
      Await P md ops Q (Until st F) n (l.setIfInBounds i true) (a.put oi.dst v) w → Await P md ops Q (Until st F) (n + 1) l a w := by
  have hsel' := Region.noSelect_spec hsel
  have hG : ∀ (l : Array Bool) (w : World), Until st F l w → ((∀ w, G w) ∨ (l.getD p true = false ∧ l.getD st true = false)) → G w := fun l w hU hp => by
    rcases hFG with ⟨hh, _⟩ | hh
    · rcases hp with hp | hp
      · exact hp w
      · exact hh w (hU hp.2)
    · exact hh w
  intro n
  induction n with
  | zero =>
    intro l a w _ _ hr hy hS hp H
    refine ⟨fun h => (by rw [h] at hr; cases hr), fun j hj => ?_⟩
    by_cases hji : j = i
    · subst hji; exact hy.wpOp hi (hG l w hS hp) ⟨fun h => hS (getD_set h), H⟩
    · have := ready_mono hj hji
      rw [H.1] at this
      cases this
  | succ n ih =>
    intro l a w hsz hfree hr hy hS hp H
    refine ⟨fun h => (by rw [h] at hr; cases hr), fun j hj => ?_⟩
    by_cases hji : j = i
    · subst hji; exact hy.wpOp hi (hG l w hS hp) ⟨fun h => hS (getD_set h), H⟩
    · have h1 := H.2 j (ready_mono hj hji)
      obtain ⟨hjun, oj, hoj, hall⟩ := mem_ready.1 hj
      have hil := (mem_ready.1 hr).1
      have hnot : ∀ e ∈ oj.after, Region.binds md e = true → e.on ≠ i := fun e he hb heq => by
        have h1 := hall e he hb
        have h0 := hil
        rw [heq] at h1
        rcases Nat.lt_or_ge i l.size with h' | h'
        · simp [h'] at h0 h1; rw [h0] at h1; cases h1
        · simp [Array.getElem?_eq_none h'] at h1
      have h2 := wpOp_putIf hoj (hfree j oj hoj hji hjun hnot) (fun cs b => hsel' i oi cs b hi) (fun cs b => hsel' j oj cs b hoj) hQ hy h1
      have hfree' : ∀ k ok, ops[k]? = some ok → k ≠ i → (l.setIfInBounds j true).getD k true = false → (∀ e ∈ ok.after, Region.binds md e = true → e.on ≠ i) → oi.apart ops ok = true := fun k ok hk hki hun hno => by
        refine hfree k ok hk hki ?_ hno
        by_cases hjk : j = k
        · subst hjk; exact hjun
        · rw [getD_set_ne true hjk] at hun; exact hun
      have hp' : (∀ w, G w) ∨ ((l.setIfInBounds j true).getD p true = false ∧ (l.setIfInBounds j true).getD st true = false) := by
        rcases hp with hp | ⟨hp1, hp2⟩
        · exact .inl hp
        · rcases hFG with ⟨_, hpi, hsp, hpl, hil2⟩ | hh
          · have toF : ∀ k, k < ops.size → l.getD k true = false → l.getD k false = false := fun k hk h => by
              rw [← h]; simp [Array.getD, hsz, hk]
            have n1 : j ≠ p := fun e => waits_not_ready hpi (toF i hil2 hil) (e ▸ hj)
            have n2 : j ≠ st := fun e => waits_not_ready hsp (toF p hpl hp1) (e ▸ hj)
            exact .inr ⟨by rw [getD_set_ne true n1]; exact hp1, by rw [getD_set_ne true n2]; exact hp2⟩
          · exact .inl hh
      refine wpOp_mono (fun a' w' h3 => ?_) h2
      obtain ⟨hy', hU, hA⟩ := h3
      have hr' := ready_mono hr (Ne.symm hji)
      have hU' : Until st F (l.setIfInBounds j true) w' := fun hl => hU (by
        rw [Array.setIfInBounds_comm _ _ (Ne.symm hji), getD_set_ne true hist]; exact hl)
      refine ⟨hU', ih (l.setIfInBounds j true) a' w' (by simpa using hsz) hfree' hr' hy' hU' hp' ?_⟩
      rw [Array.setIfInBounds_comm _ _ hji]
      exact hA
theorem Await.take {st p i n : Nat} {F : World → Prop} {oi : Oper} {v : Value} {l : Array Bool} {a : Act} {w : World} (hi : ops[i]? = some oi) (hs : Region.noSelect ops = true) (hf : Region.free md ops l i = true) (hr : (Region.ready md ops l).contains i = true)
    (hw : (waitsFor md ops p i && waitsFor md ops st p && decide (p < ops.size) && decide (i < ops.size) && decide (i ≠ st) && decide (l.size = ops.size) && !l.getD p true && !l.getD st true) = true)
    (hQ : ∀ c a w, Q (.panic c) (a.put oi.dst v) w → Q (.panic c) a w) (hy : YieldsIf P ops F oi v a) (hS : Until st F l w)
    (h : Await P md ops Q (Until st F) n (l.setIfInBounds i true) (a.put oi.dst v) w) : Await P md ops Q (Until st F) (n + 1) l a w := by
  simp only [Bool.and_eq_true, decide_eq_true_eq, Bool.not_eq_true'] at hw
  obtain ⟨⟨⟨⟨⟨⟨⟨h1, h2⟩, h3⟩, h4⟩, h5⟩, h6⟩, h7⟩, h8⟩ := hw
  exact Await.first (p := p) (G := F) h5 hi hs hQ (.inl ⟨fun _ h => h, h1, h2, h3, h4⟩) n l a w h6 (Region.free_spec hi hf) (by simpa using hr) hy hS (.inr ⟨h7, h8⟩) h
theorem Await.pure {st i n : Nat} {F : World → Prop} {oi : Oper} {v : Value} {l : Array Bool} {a : Act} {w : World} (hi : ops[i]? = some oi) (hs : Region.noSelect ops = true) (hf : Region.free md ops l i = true) (hr : (Region.ready md ops l).contains i = true)
    (hw : (decide (i ≠ st) && decide (l.size = ops.size)) = true)
    (hQ : ∀ c a w, Q (.panic c) (a.put oi.dst v) w → Q (.panic c) a w) (hy : YieldsIf P ops (fun _ => True) oi v a) (hS : Until st F l w)
    (h : Await P md ops Q (Until st F) n (l.setIfInBounds i true) (a.put oi.dst v) w) : Await P md ops Q (Until st F) (n + 1) l a w := by
  simp only [Bool.and_eq_true, decide_eq_true_eq] at hw
  exact Await.first (p := 0) (G := fun _ => True) hw.1 hi hs hQ (.inr fun _ => trivial) n l a w hw.2 (Region.free_spec hi hf) (by simpa using hr) hy hS (.inl fun _ => trivial) h
def chainW (md : Region.Mode) (ops : Array Oper) (st : Nat) : Nat → List Nat → Bool
  | i, [] => waitsFor md ops st i
  | i, p :: ps => waitsFor md ops p i && chainW md ops st p ps
theorem chain_not_ready {st j : Nat} {l : Array Bool} (hj : j ∈ Region.ready md ops l) : ∀ (ps : List Nat) (i : Nat), chainW md ops st i ps = true → l.getD i false = false → (∀ k ∈ ps, l.getD k false = false) → j ≠ st ∧ ∀ k ∈ ps, j ≠ k
  | [], i, h, hi, _ => ⟨fun e => waits_not_ready h hi (e ▸ hj), fun k hk => by cases hk⟩
  | p :: ps, i, h, hi, hp => by
    unfold chainW at h
    simp only [Bool.and_eq_true] at h
    have hpu := hp p (by simp)
    have h2 := chain_not_ready hj ps p h.2 hpu fun k hk => hp k (by simp [hk])
    refine ⟨h2.1, fun k hk => ?_⟩
    rcases List.mem_cons.1 hk with rfl | hk
    · exact fun e => waits_not_ready h.1 hi (e ▸ hj)
    · exact h2.2 k hk
theorem Await.firsts {st : Nat} {ps : List Nat} {F : World → Prop} {i : Nat} {oi : Oper} {v : Value} (hist : i ≠ st) (hi : ops[i]? = some oi) (hsel : Region.noSelect ops = true)
    (hQ : ∀ c a w, Q (.panic c) (a.put oi.dst v) w → Q (.panic c) a w) (hch : chainW md ops st i ps = true) (hpl : ∀ k ∈ ps, k < ops.size) (hil2 : i < ops.size) :
    ∀ (n : Nat) (l : Array Bool) (a : Act) (w : World), l.size = ops.size →
      (∀ j oj, ops[j]? = some oj → j ≠ i → l.getD j true = false → (∀ e ∈ oj.after, Region.binds md e = true → e.on ≠ i) → oi.apart ops oj = true) →
      i ∈ Region.ready md ops l → YieldsIf P ops F oi v a → Until st F l w → ((∀ k ∈ ps, l.getD k true = false) ∧ l.getD st true = false) →
      Await P md ops Q (Until st F) n (l.setIfInBounds i true) (a.put oi.dst v) w → Await P md ops Q (Until st F) (n + 1) l a w := by
  have hsel' := Region.noSelect_spec hsel
  intro n
  induction n with
  | zero =>
    intro l a w _ _ hr hy hS hp H
    refine ⟨fun h => (by rw [h] at hr; cases hr), fun j hj => ?_⟩
    by_cases hji : j = i
    · subst hji; exact hy.wpOp hi (hS hp.2) ⟨fun h => hS (getD_set h), H⟩
    · have := ready_mono hj hji
      rw [H.1] at this
      cases this
  | succ n ih =>
    intro l a w hsz hfree hr hy hS hp H
    refine ⟨fun h => (by rw [h] at hr; cases hr), fun j hj => ?_⟩
    by_cases hji : j = i
    · subst hji; exact hy.wpOp hi (hS hp.2) ⟨fun h => hS (getD_set h), H⟩
    · have h1 := H.2 j (ready_mono hj hji)
      obtain ⟨hjun, oj, hoj, hall⟩ := mem_ready.1 hj
      have hil := (mem_ready.1 hr).1
      have hnot : ∀ e ∈ oj.after, Region.binds md e = true → e.on ≠ i := fun e he hb heq => by
        have h1 := hall e he hb
        have h0 := hil
        rw [heq] at h1
        rcases Nat.lt_or_ge i l.size with h' | h'
        · simp [h'] at h0 h1; rw [h0] at h1; cases h1
        · simp [Array.getElem?_eq_none h'] at h1
      have h2 := wpOp_putIf hoj (hfree j oj hoj hji hjun hnot) (fun cs b => hsel' i oi cs b hi) (fun cs b => hsel' j oj cs b hoj) hQ hy h1
      have hfree' : ∀ k ok, ops[k]? = some ok → k ≠ i → (l.setIfInBounds j true).getD k true = false → (∀ e ∈ ok.after, Region.binds md e = true → e.on ≠ i) → oi.apart ops ok = true := fun k ok hk hki hun hno => by
        refine hfree k ok hk hki ?_ hno
        by_cases hjk : j = k
        · subst hjk; exact hjun
        · rw [getD_set_ne true hjk] at hun; exact hun
      have toF : ∀ k, k < ops.size → l.getD k true = false → l.getD k false = false := fun k hk h => by
        rw [← h]; simp [Array.getD, hsz, hk]
      have hnr := chain_not_ready hj ps i hch (toF i hil2 hil) fun k hk => toF k (hpl k hk) (hp.1 k hk)
      have hp' : (∀ k ∈ ps, (l.setIfInBounds j true).getD k true = false) ∧ (l.setIfInBounds j true).getD st true = false :=
        ⟨fun k hk => by rw [getD_set_ne true (hnr.2 k hk)]; exact hp.1 k hk, by rw [getD_set_ne true hnr.1]; exact hp.2⟩
      refine wpOp_mono (fun a' w' h3 => ?_) h2
      obtain ⟨hy', hU, hA⟩ := h3
      have hr' := ready_mono hr (Ne.symm hji)
      have hU' : Until st F (l.setIfInBounds j true) w' := fun hl => hU (by
        rw [Array.setIfInBounds_comm _ _ (Ne.symm hji), getD_set_ne true hist]; exact hl)
      refine ⟨hU', ih (l.setIfInBounds j true) a' w' (by simpa using hsz) hfree' hr' hy' hU' hp' ?_⟩
      rw [Array.setIfInBounds_comm _ _ hji]
      exact hA
theorem Await.takes {st i n : Nat} (ps : List Nat) {F : World → Prop} {oi : Oper} {v : Value} {l : Array Bool} {a : Act} {w : World} (hi : ops[i]? = some oi) (hs : Region.noSelect ops = true) (hf : Region.free md ops l i = true) (hr : (Region.ready md ops l).contains i = true)
    (hw : (chainW md ops st i ps && ps.all (fun k => decide (k < ops.size) && !l.getD k true) && decide (i < ops.size) && decide (i ≠ st) && decide (l.size = ops.size) && !l.getD st true) = true)
    (hQ : ∀ c a w, Q (.panic c) (a.put oi.dst v) w → Q (.panic c) a w) (hy : YieldsIf P ops F oi v a) (hS : Until st F l w)
    (h : Await P md ops Q (Until st F) n (l.setIfInBounds i true) (a.put oi.dst v) w) : Await P md ops Q (Until st F) (n + 1) l a w := by
  simp only [Bool.and_eq_true, decide_eq_true_eq, Bool.not_eq_true', List.all_eq_true] at hw
  obtain ⟨⟨⟨⟨⟨h1, h2⟩, h4⟩, h5⟩, h6⟩, h8⟩ := hw
  exact Await.firsts (ps := ps) h5 hi hs hQ h1 (fun k hk => (h2 k hk).1) h4 n l a w h6 (Region.free_spec hi hf) (by simpa using hr) hy hS ⟨fun k hk => (h2 k hk).2, h8⟩ h
theorem Await.step {i n : Nat} {o : Oper} {l : Array Bool} {a : Act} {w : World} (hr : Region.ready md ops l = [i]) (ho : ops[i]? = some o)
    (h : ∀ K' : Act → World → Prop, Shut (∀ a w, S (l.setIfInBounds i true) w → (S (l.setIfInBounds i true) w → Await P md ops Q S n (l.setIfInBounds i true) a w) → K' a w) →
      if Region.wanted o (yielded ops a.tmps) = true then Oper.wp P o a w K' Q else K' (a.put o.dst undef) w) : Await P md ops Q S (n + 1) l a w := by
  refine ⟨fun h0 => (by rw [hr] at h0; cases h0), fun j hj => ?_⟩
  rw [hr] at hj
  obtain rfl := List.mem_singleton.1 hj
  exact wpOp_step ho (fun K' hK => h K' (fun a w hS hW => hK a w ⟨hS, hW hS⟩))
theorem Await.done {l : Array Bool} {a : Act} {w : World} (hr : Region.ready md ops l = []) (h : Q .normal a w) : ∀ n, Await P md ops Q S n l a w
  | 0 => ⟨hr, h⟩
  | _ + 1 => ⟨fun _ => h, by rw [hr]; simp⟩
theorem Await.begin {id : Nat} {a : Act} {w : World} (hm : P.follows .mixedOrders = true) (hS : S (Array.replicate ops.size false) w.drew)
    (h : S (Array.replicate ops.size false) w.drew → Await P .any ops Q S ops.size (Array.replicate ops.size false) a w.drew) : (Code.region id ops true).wp P Q a w :=
  wp_region_any hm (Await.any _ _ _ _ (h hS))
theorem Until.over {st : Nat} {F : World → Prop} {l : Array Bool} {w : World} (h : l.getD st true = true) : Until st F l w := fun h' => by rw [h] at h'; cases h'
theorem Until.of {st : Nat} {F : World → Prop} {l : Array Bool} {w : World} (h : F w) : Until st F l w := fun _ => h
end
end Go.Proofs.YteciobkjfmddcaaDoor
