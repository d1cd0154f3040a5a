/-
  Packed: TextA, Orders, HasMem, Lists2, TypeRow, TypeGame, First, Games, Games2, Season, Tables.
-/
import Derived.Test.YteciobkjfmddcaaGreatDoorProg
import Derived.WalkKit
import Derived.BigQuiet
import Derived.Deep.QuietTactic
import Derived.Lib.Hide
import Derived.Outline
import Derived.OneCell
import Derived.Deep.RegionHeld3
import Derived.Test.YteciobkjfmddcaaGreatDoorQ1
set_option linter.unusedVariables false
namespace Go.Proofs.YteciobkjfmddcaaGreatDoor
open Go.RowKit

def dgB (r : Int) : Bool := decide (48 ≤ r ∧ r ≤ 57)
def smB (r : Int) : Bool := decide (97 ≤ r ∧ r ≤ 122)
theorem dgB_mk {r : Int} (h : 48 ≤ r ∧ r ≤ 57) : dgB r = true := by simp [dgB, h]
theorem dgB_no {r : Int} (h : ¬ (48 ≤ r ∧ r ≤ 57)) : dgB r = false := by simp only [dgB, decide_eq_false_iff_not]; exact h
theorem dgB_yes {r : Int} (h : dgB r = true) : 48 ≤ r ∧ r ≤ 57 := by simpa [dgB] using h
theorem dgB_not {r : Int} (h : dgB r = false) : ¬ (48 ≤ r ∧ r ≤ 57) := by simpa only [dgB, decide_eq_false_iff_not] using h
theorem smB_mk {r : Int} (h : 97 ≤ r ∧ r ≤ 122) : smB r = true := by simp [smB, h]
theorem smB_no {r : Int} (h : ¬ (97 ≤ r ∧ r ≤ 122)) : smB r = false := by simp only [smB, decide_eq_false_iff_not]; exact h
theorem smB_yes {r : Int} (h : smB r = true) : 97 ≤ r ∧ r ≤ 122 := by simpa [smB] using h
theorem smB_not {r : Int} (h : smB r = false) : ¬ (97 ≤ r ∧ r ≤ 122) := by simpa only [smB, decide_eq_false_iff_not] using h

def bat (s : ByteArray) (k : Nat) : Nat := (s.get! k).toNat
theorem bat_of (s : ByteArray) (k : Nat) (h : k < s.size) : bat s k = (s[k]'h).toNat := by
  have := get_at s k h
  simp only [Nat.add_zero] at this
  simp [bat, this]
theorem bat_lt (s : ByteArray) (k : Nat) : bat s k < 256 := (s.get! k).toNat_lt
theorem decode_low (s : ByteArray) (pos : Nat) (h : pos < s.size) (hl : bat s pos < 128) : Utf8.decode s pos = (bat s pos, 1) := by
  rw [bat_of s pos h] at *
  exact decode_ascii s pos h (by omega)
theorem decode_hi (s : ByteArray) (pos : Nat) (h : pos < s.size) (hl : ¬ bat s pos < 128) : 128 ≤ (Utf8.decode s pos).1 ∧ 1 ≤ (Utf8.decode s pos).2 := by
  rw [bat_of s pos h] at *
  exact decode_high s pos h (by omega)

theorem decode_cont (s : ByteArray) (pos : Nat) (h : pos < s.size) (hl : ¬ bat s pos < 128) :
    1 ≤ (Utf8.decode s pos).2 ∧ pos + (Utf8.decode s pos).2 ≤ s.size ∧ ∀ j, j < (Utf8.decode s pos).2 → 128 ≤ bat s (pos + j) := by
  have e0 : (s.get! (pos + 0)).toNat = bat s pos := rfl
  have one : ∀ j, j < 1 → 128 ≤ bat s (pos + j) := fun j hj => by
    obtain rfl : j = 0 := by omega
    simpa using hl
  have fin1 : ∀ x : Nat × Nat, x.2 = 1 → 1 ≤ x.2 ∧ pos + x.2 ≤ s.size ∧ ∀ j, j < x.2 → 128 ≤ bat s (pos + j) := fun x hx => by
    rw [hx]; exact ⟨Nat.le_refl _, by omega, one⟩
  simp only [Utf8.decode, e0, if_neg hl]
  by_cases c1 : (decide (pos + 1 < s.size) && (s.get! (pos + 1)).toNat / 64 == 2) = true
  · simp only [Bool.and_eq_true, decide_eq_true_eq, beq_iff_eq] at c1
    have b1 : 128 ≤ bat s (pos + 1) := by show 128 ≤ (s.get! (pos + 1)).toNat; omega
    have fin2 : ∀ x : Nat × Nat, x.2 = 2 → 1 ≤ x.2 ∧ pos + x.2 ≤ s.size ∧ ∀ j, j < x.2 → 128 ≤ bat s (pos + j) := fun x hx => by
      rw [hx]; refine ⟨by omega, by omega, fun j hj => ?_⟩
      rcases (show j = 0 ∨ j = 1 by omega) with rfl | rfl
      · exact one 0 (by omega)
      · exact b1
    by_cases c2 : (decide (pos + 2 < s.size) && (s.get! (pos + 2)).toNat / 64 == 2) = true
    · simp only [Bool.and_eq_true, decide_eq_true_eq, beq_iff_eq] at c2
      have b2 : 128 ≤ bat s (pos + 2) := by show 128 ≤ (s.get! (pos + 2)).toNat; omega
      have fin3 : ∀ x : Nat × Nat, x.2 = 3 → 1 ≤ x.2 ∧ pos + x.2 ≤ s.size ∧ ∀ j, j < x.2 → 128 ≤ bat s (pos + j) := fun x hx => by
        rw [hx]; refine ⟨by omega, by omega, fun j hj => ?_⟩
        rcases (show j = 0 ∨ j = 1 ∨ j = 2 by omega) with rfl | rfl | rfl
        · exact one 0 (by omega)
        · exact b1
        · exact b2
      by_cases c3 : (decide (pos + 3 < s.size) && (s.get! (pos + 3)).toNat / 64 == 2) = true
      · simp only [Bool.and_eq_true, decide_eq_true_eq, beq_iff_eq] at c3
        have b3 : 128 ≤ bat s (pos + 3) := by show 128 ≤ (s.get! (pos + 3)).toNat; omega
        have fin4 : ∀ x : Nat × Nat, x.2 = 4 → 1 ≤ x.2 ∧ pos + x.2 ≤ s.size ∧ ∀ j, j < x.2 → 128 ≤ bat s (pos + j) := fun x hx => by
          rw [hx]; refine ⟨by omega, by omega, fun j hj => ?_⟩
          rcases (show j = 0 ∨ j = 1 ∨ j = 2 ∨ j = 3 by omega) with rfl | rfl | rfl | rfl
          · exact one 0 (by omega)
          · exact b1
          · exact b2
          · exact b3
        repeat' split
        all_goals first | exact fin1 _ rfl | exact fin2 _ rfl | exact fin3 _ rfl | exact fin4 _ rfl
      · simp only [Bool.not_eq_true] at c3
        simp only [c3, Bool.and_false]
        repeat' split
        all_goals first | exact fin1 _ rfl | exact fin2 _ rfl | exact fin3 _ rfl | (exfalso; simp_all; done)
    · simp only [Bool.not_eq_true] at c2
      simp only [c2, Bool.and_false, Bool.false_and]
      repeat' split
      all_goals first | exact fin1 _ rfl | exact fin2 _ rfl | (exfalso; simp_all; done)
  · simp only [Bool.not_eq_true] at c1
    simp only [c1, Bool.and_false, Bool.false_and]
    repeat' split
    all_goals first | exact fin1 _ rfl | (exfalso; simp_all; done)

def digits (s : ByteArray) : Bool := decide (0 < s.size ∧ ∀ k, k < s.size → dgB (bat s k) = true)
theorem digits_no (s : ByteArray) (k : Nat) (h : k < s.size) (hd : dgB (bat s k) = false) : digits s = false := by
  simp only [digits, decide_eq_false_iff_not]
  rintro ⟨_, h2⟩
  rw [h2 k h] at hd
  cases hd
theorem digits_all (s : ByteArray) (h0 : 0 < s.size) (hd : ∀ k, k < s.size → dgB (bat s k) = true) : digits s = true := by
  simp only [digits, decide_eq_true_eq]
  exact ⟨h0, hd⟩
theorem digits_nil (s : ByteArray) (h0 : ¬ 0 < s.size) : digits s = false := by
  simp only [digits, decide_eq_false_iff_not]
  exact fun h => h0 h.1

theorem emp_no (s : ByteArray) (h : 0 < s.size) : s.toList.isEmpty = false := by
  rw [ByteArray.toList_eq, List.isEmpty_eq_false_iff]
  intro he
  have : s.data.toList.length = 0 := by rw [he]; rfl
  rw [Array.length_toList] at this
  have h2 : s.size = s.data.size := rfl
  omega
theorem emp_yes (s : ByteArray) (h : ¬ 0 < s.size) : s.toList.isEmpty = true := by
  rw [ByteArray.toList_eq, List.isEmpty_iff]
  have h2 : s.size = s.data.size := rfl
  have : s.data.toList.length = 0 := by rw [Array.length_toList]; omega
  exact List.eq_nil_of_length_eq_zero this

theorem isDigit_yes (r : Int) (w : World) (h : 48 ≤ r ∧ r ≤ 57) : Calls Tryz.prog 97 #[.int .i32 r] w fun e w' => e = .returned (.bool true) ∧ w = w' := by
  obtain ⟨h1, h2⟩ := h
  have g1 : decide (48 ≤ r) = true := by simpa using h1
  have g2 : decide (r ≤ 57) = true := by simpa using h2
  go_enter Tryz.func97, Tryz.ntmps97
  go_wp2
  go_ret
  exact ⟨rfl, rfl⟩

theorem isDigit_no (r : Int) (w : World) (h : ¬ (48 ≤ r ∧ r ≤ 57)) : Calls Tryz.prog 97 #[.int .i32 r] w fun e w' => e = .returned (.bool false) ∧ w = w' := by
  by_cases h1 : 48 ≤ r
  · have h2 : 57 < r := by omega
    have g2 : decide (r ≤ 57) = false := by simpa using h2
    clear h
    go_enter Tryz.func97, Tryz.ntmps97
    go_wp2
    go_ret
    exact ⟨by simp, rfl⟩
  · clear h
    have g2 : decide (48 ≤ r) = false := by simpa using h1
    go_enter Tryz.func97, Tryz.ntmps97
    go_wp2
    go_ret
    exact ⟨by simp, rfl⟩

def nameAt (k b : Nat) : Bool := smB b || (decide (k ≠ 0) && dgB b)
theorem nameAt_no {k b : Nat} (h1 : ¬ (97 ≤ b ∧ b ≤ 122)) (h2 : k = 0 ∨ ¬ (48 ≤ b ∧ b ≤ 57)) : nameAt k b = false := by
  unfold nameAt
  rw [smB_no (by omega)]
  rcases h2 with h2 | h2
  · simp [h2]
  · rw [dgB_no (by omega)]; simp
theorem nameAt_small {k b : Nat} (h : 97 ≤ b ∧ b ≤ 122) : nameAt k b = true := by
  unfold nameAt; rw [smB_mk (by omega)]; simp
theorem nameAt_dig {k b : Nat} (h : 48 ≤ b ∧ b ≤ 57) (hk : k ≠ 0) : nameAt k b = true := by
  unfold nameAt; rw [dgB_mk (by omega)]; simp [hk]
theorem nameAt_low {k b : Nat} (h : nameAt k b = true) : b < 128 := by
  unfold nameAt at h
  simp only [Bool.or_eq_true, Bool.and_eq_true] at h
  rcases h with h | ⟨_, h⟩
  · have := smB_yes h; omega
  · have := dgB_yes h; omega
def nameB (s : ByteArray) : Bool := decide (1 ≤ s.size ∧ s.size ≤ 8 ∧ ∀ k, k < s.size → nameAt k (bat s k) = true)
theorem nameB_no (s : ByteArray) (k : Nat) (h : k < s.size) (hd : nameAt k (bat s k) = false) : nameB s = false := by
  simp only [nameB, decide_eq_false_iff_not]
  rintro ⟨_, _, h2⟩
  rw [h2 k h] at hd
  cases hd
theorem nameB_all (s : ByteArray) (h0 : 1 ≤ s.size) (h8 : s.size ≤ 8) (hd : ∀ k, k < s.size → nameAt k (bat s k) = true) : nameB s = true := by
  simp only [nameB, decide_eq_true_eq]
  exact ⟨h0, h8, hd⟩
theorem nameB_len (s : ByteArray) (h0 : ¬ (1 ≤ s.size ∧ s.size ≤ 8)) : nameB s = false := by
  simp only [nameB, decide_eq_false_iff_not]
  exact fun h => h0 ⟨h.1, h.2.1⟩

theorem isSmall_yes (r : Int) (w : World) (h : 97 ≤ r ∧ r ≤ 122) : Calls Tryz.prog 96 #[.int .i32 r] w fun e w' => e = .returned (.bool true) ∧ w = w' := by
  obtain ⟨h1, h2⟩ := h
  have g1 : decide (97 ≤ r) = true := decide_eq_true h1
  have g2 : decide (r ≤ 122) = true := decide_eq_true h2
  go_enter Tryz.func96, Tryz.ntmps96
  go_wp2
  go_ret
  exact ⟨rfl, rfl⟩

theorem isSmall_no (r : Int) (w : World) (h : ¬ (97 ≤ r ∧ r ≤ 122)) : Calls Tryz.prog 96 #[.int .i32 r] w fun e w' => e = .returned (.bool false) ∧ w = w' := by
  by_cases h1 : 97 ≤ r
  · have g1 : decide (97 ≤ r) = true := decide_eq_true h1
    have g2 : decide (r ≤ 122) = false := decide_eq_false (by omega)
    clear h
    go_enter Tryz.func96, Tryz.ntmps96
    go_wp2
    go_ret
    exact ⟨by first | rfl | simp, rfl⟩
  · have g2 : decide (97 ≤ r) = false := decide_eq_false h1
    clear h
    go_enter Tryz.func96, Tryz.ntmps96
    go_wp2
    go_ret
    exact ⟨by first | rfl | simp, rfl⟩

theorem isName_impl (s : ByteArray) (w : World) (hs : s.size ≤ maxLen) :
    Calls Tryz.prog 80 #[.string s] w fun e w' => e = .returned (.bool (nameB s)) ∧ Below w.heap.size w w' := by
  unfold maxLen at hs
  by_cases hz : 0 < s.size
  · have hne : s.toList.isEmpty = false := emp_no s hz
    by_cases h8 : 8 < s.size
    · have Hdn : Hid (nameB s = false) := nameB_len s (by omega)
      have g1 : decide ((8 : Int) < (s.size : Int)) = true := decide_eq_true (by omega)
      go_enter Tryz.func80, Tryz.ntmps80
      go_wp2
      go_ret
      exact ⟨by rw [Hdn.out]; rfl, Below.refl _ _⟩
    · have g1 : decide ((8 : Int) < (s.size : Int)) = false := decide_eq_false (by omega)
      go_enter Tryz.func80, Tryz.ntmps80
      go_wp2
      clear hne g1
      go_loopw [3, 4] (fun _ _ w' => ∃ pos : Nat, pos ≤ s.size ∧ w' = w.iter s pos ∧ Hid (∀ k, k < pos → nameAt k (bat s k) = true)) (fun _ _ w' => s.size - w'.iterPos w.heap.size)
      case atStart => exact ⟨0, Nat.zero_le _, rfl, fun k hk => absurd hk (by omega)⟩
      case round =>
        obtain ⟨pos, hle, rfl, hd⟩ := hrel
        by_cases hp : pos < s.size
        · have hnx : ∀ ty, (Instr.next (.pointer (some ⟨w.heap.size, 0, none⟩)) true ty).run Tryz.prog (w.iter s pos) = _ := fun ty => run_next_any w s pos ty hp
          by_cases hn : nameAt pos (bat s pos) = true
          · have hnext : Hid (∀ j, j < pos + 1 → nameAt j (bat s j) = true) := fun j hj => by
              by_cases hj' : j = pos
              · rw [hj']; exact hn
              · exact hd.out j (by omega)
            have hcase : (97 ≤ bat s pos ∧ bat s pos ≤ 122) ∨ (pos ≠ 0 ∧ 48 ≤ bat s pos ∧ bat s pos ≤ 57) := by
              have hn := hn
              unfold nameAt at hn
              simp only [Bool.or_eq_true, Bool.and_eq_true, decide_eq_true_eq] at hn
              rcases hn with h | ⟨h1, h⟩
              · have := smB_yes h; omega
              · have := dgB_yes h; omega
            rw [decode_low s pos hp (nameAt_low hn)] at hnx
            clear hn hd
            rcases hcase with ⟨h1, h2⟩ | ⟨hk, h1, h2⟩
            · go_wp2_with (go_at_call 96; refine (isSmall_yes _ _ (by omega)).mono ?_; rintro e w' ⟨rfl, rfl⟩)
              go_roundw
              case rel => exact ⟨pos + 1, by omega, rfl, hnext⟩
              case measure => simp; omega
            · have g2 : ((pos : Int) == 0) = false := by simpa using hk
              go_wp2_with (first
                | (go_at_call 96; refine (isSmall_no _ _ (by omega)).mono ?_; rintro e w' ⟨rfl, rfl⟩)
                | (go_at_call 97; refine (isDigit_yes _ _ (by omega)).mono ?_; rintro e w' ⟨rfl, rfl⟩))
              go_roundw
              case rel => exact ⟨pos + 1, by omega, rfl, hnext⟩
              case measure => simp; omega
          · have Hdn : Hid (nameB s = false) := nameB_no s pos hp (by simpa using hn)
            have hcase : ¬ (97 ≤ ((Utf8.decode s pos).1 : Int) ∧ ((Utf8.decode s pos).1 : Int) ≤ 122) ∧ (pos = 0 ∨ (pos ≠ 0 ∧ ¬ (48 ≤ ((Utf8.decode s pos).1 : Int) ∧ ((Utf8.decode s pos).1 : Int) ≤ 57))) := by
              by_cases hl : bat s pos < 128
              · rw [decode_low s pos hp hl]
                refine ⟨fun h => hn (nameAt_small (by simp only at h; omega)), ?_⟩
                by_cases hk : pos = 0
                · exact .inl hk
                · exact .inr ⟨hk, fun h => hn (nameAt_dig (by simp only at h; omega) hk)⟩
              · have := (decode_hi s pos hp hl).1
                by_cases hk : pos = 0
                · exact ⟨by omega, .inl hk⟩
                · exact ⟨by omega, .inr ⟨hk, by omega⟩⟩
            generalize hg : (Utf8.decode s pos).1 = r at *
            generalize hg2 : (Utf8.decode s pos).2 = wd at *
            obtain ⟨hr1, hk⟩ := hcase
            clear hg hg2 hd hn
            rcases hk with hk | ⟨hk, hk2⟩
            · subst hk
              go_wp2_with (go_at_call 96; refine (isSmall_no _ _ hr1).mono ?_; rintro e w' ⟨rfl, rfl⟩)
              go_ret
              exact ⟨by rw [Hdn.out]; rfl, (Below.refl _ _).alloc (Nat.le_refl _) _⟩
            · have g2 : ((pos : Int) == 0) = false := by simpa using hk
              go_wp2_with (first
                | (go_at_call 96; refine (isSmall_no _ _ hr1).mono ?_; rintro e w' ⟨rfl, rfl⟩)
                | (go_at_call 97; refine (isDigit_no _ _ hk2).mono ?_; rintro e w' ⟨rfl, rfl⟩))
              go_ret
              exact ⟨by rw [Hdn.out]; rfl, (Below.refl _ _).alloc (Nat.le_refl _) _⟩
        · have hnx : ∀ ty, (Instr.next (.pointer (some ⟨w.heap.size, 0, none⟩)) true ty).run Tryz.prog (w.iter s pos) = _ := fun ty => run_next_end w s pos ty hp
          have Hdn : Hid (nameB s = true) := nameB_all s hz (by omega) fun k hk => hd.out k (by omega)
          go_wp2
          go_ret
          exact ⟨by rw [Hdn.out]; rfl, (Below.refl _ _).alloc (Nat.le_refl _) _⟩
  · have Hdn : Hid (nameB s = false) := nameB_len s (by omega)
    have hne : s.toList.isEmpty = true := emp_yes s hz
    go_enter Tryz.func80, Tryz.ntmps80
    go_wp2
    go_ret
    exact ⟨by rw [Hdn.out]; rfl, Below.refl _ _⟩

end Go.Proofs.YteciobkjfmddcaaGreatDoor
set_option linter.unusedVariables false
namespace Go.Proofs.YteciobkjfmddcaaGreatDoor
open Go.RowKit

def hasP (g : Nat → Int) (x : Int) (n : Nat) : Prop := ∃ j, j < n ∧ g j = x
theorem hasP_at {g : Nat → Int} {x : Int} {n j : Nat} (h : j < n) (hg : g j = x) : hasP g x n := ⟨j, h, hg⟩
theorem l02Has_yes (v : Value) (n : Nat) (g : Nat → Int) (x : Int) (w : World) (h : IntRow w v n g) (hp : hasP g x n) :
    Calls Tryz.prog 60 #[v, .int .i64 x] w fun e w' => e = .returned (.bool true) ∧ w = w' := by
  obtain ⟨a, cap, rfl, hn, hv⟩ := h.form
  have HV := Lib.hid hv
  have HP := Lib.hid hp
  clear hv h hp
  go_enter Tryz.func60, Tryz.ntmps60
  go_wp2
  go_loop [9] (fun i => ∃ k : Nat, k ≤ n ∧ i = .int .i64 k ∧ Hid (∀ j, j < k → g j ≠ x)) (fun i => n - (RowKit.intOf i).toNat)
  case atStart => exact ⟨0, Nat.zero_le _, rfl, fun j hj => absurd hj (by omega)⟩
  case round =>
    obtain ⟨k, hk, rfl, hno⟩ := hrel
    by_cases hlt : k < n
    · obtain ⟨b, off, rfl, hc⟩ := HV.out (by omega)
      have c1 := hc k hlt
      have HK := Lib.hid (rfl : g k = g k)
      have HN : ∀ y, g k = y → y ≠ x → Hid (∀ j, j < k + 1 → g j ≠ x) := fun y hy hx j hj => by
        by_cases hjk : j = k
        · rw [hjk, hy]; exact hx
        · exact hno.out j (by omega)
      have HN := Lib.hid HN
      generalize hy : g k = y at *
      have HY := Lib.hid hy
      clear hc HV hno hy HK
      by_cases hx : y = x
      · subst hx
        go_wp2
        go_ret
        exact ⟨rfl, rfl⟩
      · have g1 : (y == x) = false := by simpa using hx
        have HX := Lib.hid hx
        clear hx
        go_wp2
        go_round
        case rel => exact ⟨k + 1, by omega, by go_num, HN.out _ rfl HX.out⟩
        case measure => simp [RowKit.intOf]; omega
    · obtain ⟨j, hj, hjx⟩ := HP.out
      exact absurd hjx (hno.out j (by omega))
theorem l02Has_no (v : Value) (n : Nat) (g : Nat → Int) (x : Int) (w : World) (h : IntRow w v n g) (hp : ¬ hasP g x n) :
    Calls Tryz.prog 60 #[v, .int .i64 x] w fun e w' => e = .returned (.bool false) ∧ w = w' := by
  obtain ⟨a, cap, rfl, hn, hv⟩ := h.form
  have HV := Lib.hid hv
  have HP := Lib.hid hp
  clear hv h hp
  go_enter Tryz.func60, Tryz.ntmps60
  go_wp2
  go_loop [9] (fun i => ∃ k : Nat, k ≤ n ∧ i = .int .i64 k) (fun i => n - (RowKit.intOf i).toNat)
  case atStart => exact ⟨0, Nat.zero_le _, rfl⟩
  case round =>
    obtain ⟨k, hk, rfl⟩ := hrel
    by_cases hlt : k < n
    · obtain ⟨b, off, rfl, hc⟩ := HV.out (by omega)
      have c1 := hc k hlt
      have g1 : (g k == x) = false := by
        simp only [beq_eq_false_iff_ne, ne_eq]
        exact fun h => HP.out (hasP_at hlt h)
      clear hc HV
      generalize g k = y at *
      go_wp2
      go_round
      case rel => exact ⟨k + 1, by omega, by go_num⟩
      case measure => simp [RowKit.intOf]; omega
    · go_wp2
      go_ret
      exact ⟨rfl, rfl⟩

def placeI (g : Nat → Int) (x : Int) : Nat → Nat → Int
  | 0, _ => -1
  | r + 1, k => if g k = x then (k : Int) else placeI g x r (k + 1)
def orderP (m : Int) (n : Nat) (g : Nat → Int) : Prop := (0 ≤ m ∧ m ≤ 8) ∧ (n : Int) = m ∧ ∀ i, i < n → (0 ≤ g i ∧ g i ≤ m - 1) ∧ ¬ hasP g (g i) i
theorem IntRow.take {w : World} {b off cap n : Nat} {g : Nat → Int} (k : Nat) (hk : k ≤ n) (hn : n ≤ 9223372036854775807) (hcap : n ≤ cap) (h : ∀ i, i < n → w.cell? ⟨b, off + i, none⟩ = some (.int .i64 (g i))) :
    IntRow w (.slice (some ⟨b, off, none⟩) k cap) k g := by
  by_cases h0 : k = 0
  · subst h0; exact .inl ⟨_, _, rfl, rfl⟩
  · exact .inr ⟨b, off, cap, rfl, by omega, by omega, fun i hi => h i (by omega), by omega⟩
end Go.Proofs.YteciobkjfmddcaaGreatDoor
set_option linter.unusedVariables false
namespace Go.Proofs.YteciobkjfmddcaaGreatDoor
open Go.RowKit

theorem hasP_mem (L : List Int) (x : Int) : hasP (getI L) x L.length ↔ x ∈ L := by
  constructor
  · rintro ⟨j, hj, rfl⟩
    simp only [getI, List.getD_eq_getElem?_getD, List.getElem?_eq_getElem hj, Option.getD_some]
    exact List.getElem_mem hj
  · intro h
    obtain ⟨j, hj, he⟩ := List.getElem_of_mem h
    exact ⟨j, hj, by simp only [getI, List.getD_eq_getElem?_getD, List.getElem?_eq_getElem hj, Option.getD_some]; exact he⟩
theorem owns_form {w : World} {base : Nat} {e : TypeId} {size : Nat} {v : Value} {n : Nat} {xs : List Value} (h : w.ownsRow base e size v n xs) : ∃ a c, v = .slice a n c := by
  rcases h.2 with ⟨rfl, h0⟩ | ⟨b, cap, cur, rfl, _⟩
  · exact ⟨none, 0, by rw [h0]⟩
  · exact ⟨_, _, rfl⟩
end Go.Proofs.YteciobkjfmddcaaGreatDoor
set_option linter.unusedVariables false
namespace Go.Proofs.YteciobkjfmddcaaGreatDoor
open Go.RowKit

theorem pairwise_set {α : Type} {R : α → α → Prop} (hs : ∀ a b, R a b → R b a) : ∀ (l : List α) (i : Nat) (x : α), l.Pairwise R → (∀ j y, j ≠ i → l[j]? = some y → R x y) → (l.set i x).Pairwise R
  | [], _, _, h, _ => by simp
  | y :: l, 0, x, h, hx => by
    rw [List.set_cons_zero, List.pairwise_cons]
    exact ⟨fun z hz => by obtain ⟨j, hj⟩ := List.mem_iff_getElem?.1 hz; exact hx (j + 1) z (by omega) (by simpa using hj), (List.pairwise_cons.1 h).2⟩
  | y :: l, i + 1, x, h, hx => by
    rw [List.set_cons_succ, List.pairwise_cons]
    refine ⟨fun z hz => ?_, pairwise_set hs l i x (List.pairwise_cons.1 h).2 fun j z hj hz => hx (j + 1) z (by omega) (by simpa using hz)⟩
    rcases List.mem_or_eq_of_mem_set hz with hz | rfl
    · exact (List.pairwise_cons.1 h).1 z hz
    · exact hs _ _ (hx 0 y (by omega) rfl)
theorem pairwise_at {α : Type} {R : α → α → Prop} (hs : ∀ a b, R a b → R b a) : ∀ (l : List α) (i j : Nat) (x y : α), l.Pairwise R → l[i]? = some x → l[j]? = some y → i ≠ j → R x y
  | [], _, _, _, _, _, h, _, _ => by simp at h
  | z :: l, 0, 0, _, _, _, _, _, hn => absurd rfl hn
  | z :: l, 0, j + 1, x, y, h, h1, h2, _ => by
    simp only [List.getElem?_cons_zero, Option.some.injEq] at h1
    subst h1
    exact (List.pairwise_cons.1 h).1 y (List.mem_of_getElem? (by simpa using h2))
  | z :: l, i + 1, 0, x, y, h, h1, h2, _ => by
    simp only [List.getElem?_cons_zero, Option.some.injEq] at h2
    subst h2
    exact hs _ _ ((List.pairwise_cons.1 h).1 x (List.mem_of_getElem? (by simpa using h1)))
  | z :: l, i + 1, j + 1, x, y, h, h1, h2, hn => pairwise_at hs l i j x y (List.pairwise_cons.1 h).2 (by simpa using h1) (by simpa using h2) (by omega)
def SplitSt (w : World) (B : Nat) (ov av : Value) (T : List (Int × Value × List Int)) : Prop :=
  w.ownsRow B 24 1 ov T.length (T.map fun x => x.2.1) ∧ w.ownsRow B 3 1 av T.length (T.map fun x => Value.int .i64 x.1) ∧ OwnT w B 3 T ∧ ApartL (ov :: av :: T.map fun x => x.2.1)
theorem SplitSt.below {w w' : World} {B C : Nat} {ov av : Value} {T : List (Int × Value × List Int)} (h : SplitSt w B ov av T) (hb : Below C w w') (hC : w.heap.size ≤ C) : SplitSt w' B ov av T :=
  ⟨owns_below h.1 hb hC, owns_below h.2.1 hb hC, h.2.2.1.below hb hC, h.2.2.2⟩
theorem apart_ne {v : Value} {g : Nat} {n c : Nat} (h : ApartV (.slice (some ⟨g, 0, none⟩) n c) v) : v.ownBlock ≠ some g := h g rfl
theorem SplitSt.old {w w' : World} {B og oc ld gg m c' : Nat} {av iv : Value} {v t : Int} {p : List Int} {T : List (Int × Value × List Int)}
    (h : SplitSt w B (.slice (some ⟨og, 0, none⟩) T.length oc) av T) (hx : T[ld]? = some (v, iv, p)) (hg : w.grownBy w' iv.ownBlock)
    (ho : w'.ownsRow B 3 1 (.slice (some ⟨gg, 0, none⟩) (p.length + 1) c') (p.length + 1) (p.map (Value.int .i64) ++ [.int .i64 t])) (hat : iv.ownBlock = some gg ∨ w.heap.size ≤ gg) :
    SplitSt (w'.setCell ⟨og, ld, none⟩ (.slice (some ⟨gg, 0, none⟩) (p.length + 1) c')) B (.slice (some ⟨og, 0, none⟩) T.length oc) av (T.set ld (v, .slice (some ⟨gg, 0, none⟩) (p.length + 1) c', p ++ [t])) := by
  obtain ⟨h1, h2, h3, h4⟩ := h
  have hld : ld < T.length := (List.getElem?_eq_some_iff.1 hx).1
  have ha := List.pairwise_cons.1 h4
  have hb := List.pairwise_cons.1 ha.2
  have hm : ∀ x ∈ T, x.2.1 ∈ T.map fun x => x.2.1 := fun x hx => List.mem_map.2 ⟨x, hx, rfl⟩
  have hxm : (v, iv, p) ∈ T := List.mem_of_getElem? hx
  have hoi : ∀ k, iv.ownBlock = some k → og ≠ k := fun k hk e => ha.1 iv (List.mem_cons_of_mem _ (hm _ hxm)) og rfl (by rw [e]; exact hk)
  have hai : ∀ k, iv.ownBlock = some k → av.ownBlock ≠ some k := fun k hk e => hb.1 iv (hm _ hxm) k e hk
  have hoL := h1.lt og rfl
  have hgo : gg ≠ og := by
    rcases hat with h | h
    · exact fun e => hoi gg h e.symm
    · omega
  have hblk : ∀ k, (Value.slice (some ⟨gg, 0, none⟩) (p.length + 1) c').ownBlock = some k → k = gg := fun k hk => by simpa [Value.ownBlock] using hk.symm
  have hao : av.ownBlock ≠ some og := ha.1 av (List.mem_cons_self ..) og rfl
  have hmap : (T.set ld (v, Value.slice (some ⟨gg, 0, none⟩) (p.length + 1) c', p ++ [t])).map (fun x => x.2.1) = (T.map fun x => x.2.1).set ld (.slice (some ⟨gg, 0, none⟩) (p.length + 1) c') := by rw [List.map_set]
  refine ⟨?_, ?_, ?_, ?_⟩
  · rw [hmap, List.length_set]
    exact ((h1.kept hg (.inr (by cases hk : iv.ownBlock with
      | none => simp [Value.ownBlock]
      | some k => have := hoi k hk; simp [Value.ownBlock]; exact this))).stored ld _).1
  · rw [List.length_set]
    have hmap2 : (T.set ld (v, Value.slice (some ⟨gg, 0, none⟩) (p.length + 1) c', p ++ [t])).map (fun x => Value.int .i64 x.1) = T.map fun x => Value.int .i64 x.1 := by
      rw [List.map_set]
      apply List.ext_getElem?
      intro j
      by_cases e : ld = j
      · subst e
        rw [List.getElem?_set_self (by simpa using hld), List.getElem?_map, hx]
        rfl
      · rw [List.getElem?_set_ne e]
    rw [hmap2]
    refine ownsRow_setCell_other (h2.kept hg ?_) hao _
    cases hk : iv.ownBlock with
    | none => cases hk2 : av.ownBlock with
      | none => exact .inl rfl
      | some k2 => exact .inr (by simp)
    | some k => exact .inr fun e => hai k hk e
  · intro x hxs
    obtain ⟨j, hj⟩ := List.mem_iff_getElem?.1 hxs
    by_cases e : ld = j
    · subst e
      rw [List.getElem?_set_self hld, Option.some.injEq] at hj
      subst hj
      refine ownsRow_setCell_other ?_ ?_ _
      · simpa using ho
      · exact fun e => hgo (hblk og e).symm
    · rw [List.getElem?_set_ne e] at hj
      have hxT := List.mem_of_getElem? hj
      refine ownsRow_setCell_other ((h3 x hxT).kept hg ?_) ?_ _
      · have hap := pairwise_at (fun a b => ApartV.symm) _ ld j iv x.2.1 hb.2 (by rw [List.getElem?_map, hx]; rfl) (by rw [List.getElem?_map, hj]; rfl) e
        cases hk : iv.ownBlock with
        | none => cases hk2 : x.2.1.ownBlock with
          | none => exact .inl rfl
          | some k2 => exact .inr (by simp)
        | some k => exact .inr (hap k hk)
      · exact ha.1 x.2.1 (List.mem_cons_of_mem _ (hm x hxT)) og rfl
  · rw [hmap]
    refine List.pairwise_cons.2 ⟨fun z hz => ?_, List.pairwise_cons.2 ⟨fun z hz => ?_, ?_⟩⟩
    · rcases List.mem_cons.1 hz with rfl | hz
      · exact ha.1 _ (List.mem_cons_self ..)
      · rcases List.mem_or_eq_of_mem_set hz with hz | rfl
        · exact ha.1 z (List.mem_cons_of_mem _ hz)
        · exact fun k h1 h2 => hgo ((hblk k h2).symm.trans (by simpa [Value.ownBlock] using h1.symm))
    · rcases List.mem_or_eq_of_mem_set hz with hz | rfl
      · exact hb.1 z hz
      · intro k h1 h2'
        have := hblk k h2'
        subst this
        rcases hat with h | h
        · exact hai k h h1
        · have := (h2.lt k h1).2; omega
    · refine pairwise_set (fun a b => ApartV.symm) _ _ _ hb.2 fun j y hj hy => ?_
      intro k h1 h2'
      have := hblk k h1
      subst this
      rcases hat with h | h
      · exact pairwise_at (fun a b => ApartV.symm) _ ld j iv y hb.2 (by rw [List.getElem?_map, hx]; rfl) hy (by omega) k h h2'
      · rw [List.getElem?_map] at hy
        cases hT : T[j]? with
        | none => rw [hT] at hy; cases hy
        | some z =>
          rw [hT] at hy
          simp only [Option.map_some, Option.some.injEq] at hy
          subst hy
          have := (h3.lt (List.mem_of_getElem? hT) h2').2
          omega
theorem SplitSt.new {w w' : World} {B ga ca go co D ld : Nat} {v t : Int} {T : List (Int × Value × List Int)}
    (h1 : w.ownsRow B 24 1 (.slice (some ⟨go, 0, none⟩) (T.length + 1) co) (T.length + 1) (gapA (T.map fun x => x.2.1) ld (.slice (some ⟨D, 0, none⟩) 1 1)))
    (h2 : w.ownsRow B 3 1 (.slice (some ⟨ga, 0, none⟩) (T.length + 1) ca) (T.length + 1) ((gapA (T.map Prod.fst) ld v).map (Value.int .i64)))
    (h3 : OwnT w B 3 T) (h4 : ApartL (T.map fun x => x.2.1)) (h5 : w.ownsRow B 3 1 (.slice (some ⟨D, 0, none⟩) 1 1) 1 [.int .i64 t])
    (hgo : ∀ x ∈ T, x.2.1.ownBlock ≠ some go) (hga : ∀ x ∈ T, x.2.1.ownBlock ≠ some ga) (hD : ∀ x ∈ T, x.2.1.ownBlock ≠ some D) (hn1 : go ≠ ga) (hn2 : go ≠ D) (hn3 : ga ≠ D) (hld : ld ≤ T.length) :
    SplitSt w B (.slice (some ⟨go, 0, none⟩) (T.length + 1) co) (.slice (some ⟨ga, 0, none⟩) (T.length + 1) ca) (gapA T ld (v, .slice (some ⟨D, 0, none⟩) 1 1, [t])) := by
  have hl : (gapA T ld (v, Value.slice (some ⟨D, 0, none⟩) 1 1, [t])).length = T.length + 1 := gapA_len hld
  have hb : ∀ (g n c k : Nat), (Value.slice (some ⟨g, 0, none⟩) n c).ownBlock = some k → k = g := fun g n c k hk => by simpa [Value.ownBlock] using hk.symm
  have hin : ∀ y ∈ gapA (T.map fun x => x.2.1) ld (Value.slice (some ⟨D, 0, none⟩) 1 1), y = .slice (some ⟨D, 0, none⟩) 1 1 ∨ ∃ x ∈ T, x.2.1 = y := fun y hy => by
    rcases gapA_mem hy with h | h
    · exact .inl h
    · exact .inr (List.mem_map.1 h)
  refine ⟨by rw [hl, gapA_map]; exact h1, ?_, ?_, ?_⟩
  · rw [hl, gapA_map]
    rw [gapA_map, List.map_map] at h2
    exact h2
  · intro x hx
    rcases gapA_mem hx with rfl | hx
    · exact h5
    · exact h3 x hx
  · rw [gapA_map]
    refine List.pairwise_cons.2 ⟨fun z hz => ?_, List.pairwise_cons.2 ⟨fun z hz => ?_, gapA_pairwise h4 (fun y hy => ?_) fun y hy => ?_⟩⟩
    · rcases List.mem_cons.1 hz with rfl | hz
      · intro k e1 e2
        exact hn1 ((hb _ _ _ _ e1).symm.trans (hb _ _ _ _ e2))
      · rcases hin z hz with rfl | ⟨x, hx, rfl⟩
        · intro k e1 e2
          exact hn2 ((hb _ _ _ _ e1).symm.trans (hb _ _ _ _ e2))
        · intro k e1 e2
          have := hb _ _ _ _ e1
          subst this
          exact hgo x hx e2
    · rcases hin z hz with rfl | ⟨x, hx, rfl⟩
      · intro k e1 e2
        exact hn3 ((hb _ _ _ _ e1).symm.trans (hb _ _ _ _ e2))
      · intro k e1 e2
        have := hb _ _ _ _ e1
        subst this
        exact hga x hx e2
    · obtain ⟨x, hx, rfl⟩ := List.mem_map.1 hy
      intro k e1 e2
      have := hb _ _ _ _ e2
      subst this
      exact hD x hx e1
    · obtain ⟨x, hx, rfl⟩ := List.mem_map.1 hy
      intro k e1 e2
      have := hb _ _ _ _ e1
      subst this
      exact hD x hx e2
theorem OwnT.store {w : World} {B : Nat} {e : TypeId} {T : List (Int × Value × List Int)} (h : OwnT w B e T) {a : Addr} (ha : ∀ x ∈ T, x.2.1.ownBlock ≠ some a.block) (u : Value) : OwnT (w.setCell a u) B e T :=
  fun x hx => ownsRow_setCell_other (h x hx) (ha x hx) u
def LL (w : World) (B : Nat) (v : Value) (T : List (Value × List Int)) : Prop :=
  w.ownsRow B 24 1 v T.length (T.map Prod.fst) ∧ (∀ x ∈ T, w.ownsRow B 3 1 x.1 x.2.length (x.2.map (Value.int .i64))) ∧ ApartL (v :: T.map Prod.fst)
theorem LL.below {w w' : World} {B C : Nat} {v : Value} {T : List (Value × List Int)} (h : LL w B v T) (hb : Below C w w') (hC : w.heap.size ≤ C) : LL w' B v T :=
  ⟨owns_below h.1 hb hC, fun x hx => owns_below (h.2.1 x hx) hb hC, h.2.2⟩
theorem LL.mono {w : World} {B B' : Nat} {v : Value} {T : List (Value × List Int)} (h : LL w B v T) (hb : B' ≤ B) : LL w B' v T :=
  ⟨owns_mono h.1 hb, fun x hx => owns_mono (h.2.1 x hx) hb, h.2.2⟩
theorem SplitSt.ll {w : World} {B : Nat} {ov av : Value} {T : List (Int × Value × List Int)} (h : SplitSt w B ov av T) : LL w B ov (T.map Prod.snd) := by
  obtain ⟨h1, _, h3, h4⟩ := h
  refine ⟨by rw [List.length_map, List.map_map]; exact h1, fun x hx => ?_, ?_⟩
  · obtain ⟨y, hy, rfl⟩ := List.mem_map.1 hx
    exact h3 y hy
  · rw [List.map_map]
    have ha := List.pairwise_cons.1 h4
    exact List.pairwise_cons.2 ⟨fun z hz => ha.1 z (List.mem_cons_of_mem _ hz), (List.pairwise_cons.1 ha.2).2⟩
theorem wpList_appendR {P : Program} {w : World} {ops : Array Oper} {rest : List Oper} {o : Oper} {a : Act} {Q : Exit → Act → World → Prop} (hgd : o.guard = none) (s x : Operand) (t : TypeId)
    (ho : o.op = .call { callee := .builtin .append, args := #[s, x], argTypes := #[t, t] })
    (base : Nat) (e : TypeId) {i : TypeInfo} {z : Value} {k bytes : Nat} (ht : P.underlying t = some (.slice e)) (hi : P.info? e = some i) (hz : i.zero = some z) (hsize : i.size = k) (hby : i.bytes = bytes) (hzs : z.cells.size = k) (hk0 : 0 < k)
    {v u : Value} {n m : Nat} {xs : List Value} {g : Nat → List Value} (hs : a.eval s = v) (hown : w.ownsRow base e k v n xs) (hx : a.eval x = u) (hrow : RecRow k w u m g) (hgl : ∀ i, i < m → (g i).length = k) (h1 : ∀ i, i < m → ∀ u ∈ g i, u.oneCell' = true)
    (hm : n + m ≤ 1048576) (hb : bytes ≤ 1048576) (hbase : base ≤ w.heap.size)
    (h : ∀ vv w', w'.ownsRow base e k vv (n + m) (xs ++ flatR g m) → w.grownBy w' v.ownBlock → (∀ q, vv.ownBlock = some q → v.ownBlock = some q ∨ w.heap.size ≤ q) → wpList P ops Q rest (a.put o.dst vv) w') : wpList P ops Q (o :: rest) a w := by
  rcases hrow with ⟨ad, cap, rfl, rfl⟩ | ⟨b, off, c, rfl, h0, _, hc, _⟩
  · exact wpList_appendZero hgd s x t ho base e i k ht hi v n xs hs hown ad cap hx (h _ _ (by simpa [flatR] using hown) ⟨rfl, rfl, rfl, Nat.le_refl _, fun _ _ _ => rfl⟩ fun q hq => .inl hq)
  · have hmul : (n + m) * bytes ≤ 1048576 * 1048576 := Nat.mul_le_mul hm hb
    refine wpList_append_lies _ hgd s x t ho base e i z k bytes ht hi hz hsize hby hzs hk0 v n xs hs hown ⟨b, off, none⟩ m c (flatR g m) hx (flatR_len k g m hgl) ?_ ?_ h0 (by unfold maxLen; omega) (by omega) hbase _ rfl ?_
    · intro j u hu
      obtain ⟨hj, hv⟩ := flatR_get k g m hgl hk0 j u hu
      have hadd : (⟨b, off, none⟩ : Addr).add j = ⟨b, off + j, none⟩ := by unfold Addr.add; split <;> simp_all
      have hq := (hc _ hj).2 _ u hv
      rw [show off + j / k * k + j % k = off + j by rw [Nat.add_assoc, Nat.mul_comm, Nat.div_add_mod]] at hq
      rw [hadd]
      exact hq
    · intro u hu
      unfold flatR at hu
      rw [List.mem_flatMap] at hu
      obtain ⟨j, hj, hu⟩ := hu
      exact h1 j (List.mem_range.1 hj) u hu
    · intro gg cap w' ho' hg' hat hlt
      refine h _ w' ho' hg' fun q hq => ?_
      have hq' : gg = q := by simpa [Value.ownBlock] using hq
      subst hq'
      rcases hat with h5 | h5
      · exact .inl h5
      · exact .inr (by omega)
theorem OwnT_nil {w : World} {B : Nat} {e : TypeId} : OwnT w B e [] := fun x hx => by cases hx
theorem one_of_slice {v : Value} {w : World} {base : Nat} {e : TypeId} {size n : Nat} {xs : List Value} (h : w.ownsRow base e size v n xs) : v.oneCell' = true := by
  obtain ⟨a, c, rfl⟩ := owns_form h
  rfl
theorem LL.append {w w0 w' : World} {B B' : Nat} {v v2 vv : Value} {T T2 : List (Value × List Int)} (h : LL w0 B v T) (hw : Below w0.heap.size w0 w) (h2 : LL w B' v2 T2) (hB : B ≤ B') (hB2 : w0.heap.size ≤ B')
    (ho : w'.ownsRow B 24 1 vv (T.length + T2.length) (T.map Prod.fst ++ T2.map Prod.fst)) (hg : w.grownBy w' v.ownBlock) (hat : ∀ q, vv.ownBlock = some q → v.ownBlock = some q ∨ w.heap.size ≤ q) : LL w' B vv (T ++ T2) := by
  have h' := h.below hw (Nat.le_refl _)
  have hA := List.pairwise_cons.1 h.2.2
  have hA2 := List.pairwise_cons.1 h2.2.2
  have k1 : ∀ x ∈ T, v.ownBlock = none ∨ ∀ k, x.1.ownBlock = some k → v.ownBlock ≠ some k := fun x hx => .inr fun k hk e => hA.1 x.1 (List.mem_map.2 ⟨x, hx, rfl⟩) k e hk
  have lt0 : ∀ k, v.ownBlock = some k → k < w0.heap.size := fun k hk => (h.1.lt k hk).2
  refine ⟨by rw [List.length_append, List.map_append]; exact ho, fun x hx => ?_, ?_⟩
  · rcases List.mem_append.1 hx with hx | hx
    · refine (h'.2.1 x hx).kept hg ?_
      cases hk : x.1.ownBlock with
      | none => exact .inl rfl
      | some k => exact .inr fun e => hA.1 x.1 (List.mem_map.2 ⟨x, hx, rfl⟩) k e.symm hk
    · refine owns_mono ((h2.2.1 x hx).kept hg ?_) hB
      cases hk : x.1.ownBlock with
      | none => exact .inl rfl
      | some k =>
        refine .inr fun e => ?_
        have := lt0 k e.symm
        have := ((h2.2.1 x hx).lt k hk).1
        omega
  · rw [List.map_append]
    refine List.pairwise_cons.2 ⟨fun z hz => ?_, List.pairwise_append.2 ⟨hA.2, hA2.2, fun a ha b hb => ?_⟩⟩
    · rcases List.mem_append.1 hz with hz | hz
      · intro k e1 e2
        rcases hat k e1 with h5 | h5
        · exact hA.1 z hz k h5 e2
        · obtain ⟨x, hx, rfl⟩ := List.mem_map.1 hz
          have := ((h'.2.1 x hx).lt k e2).2
          omega
      · intro k e1 e2
        obtain ⟨x, hx, rfl⟩ := List.mem_map.1 hz
        have h6 := (h2.2.1 x hx).lt k e2
        rcases hat k e1 with h5 | h5
        · have := lt0 k h5; omega
        · omega
    · intro k e1 e2
      obtain ⟨x, hx, rfl⟩ := List.mem_map.1 ha
      obtain ⟨y, hy, rfl⟩ := List.mem_map.1 hb
      have := ((h.2.1 x hx).lt k e1).2
      have := ((h2.2.1 y hy).lt k e2).1
      omega
def ListsL (w : World) (L : List (List Int)) (e : Ending) (w' : World) : Prop :=
  ∃ v T, e = .returned v ∧ T.map Prod.snd = L ∧ LL w' w.heap.size v T ∧ Below w.heap.size w w'
end Go.Proofs.YteciobkjfmddcaaGreatDoor
set_option linter.unusedVariables false
namespace Go.Proofs.YteciobkjfmddcaaGreatDoor
open Go.RowKit

structure RowD where
  played : Int
  wins : Int
  draws : Int
  losses : Int
  scored : Int
  against : Int
  points : Int
instance : Inhabited RowD := ⟨⟨0, 0, 0, 0, 0, 0, 0⟩⟩
def RowD.cells (t : RowD) : List Value := [.int .i64 t.played, .int .i64 t.wins, .int .i64 t.draws, .int .i64 t.losses, .int .i64 t.scored, .int .i64 t.against, .int .i64 t.points]
def RowD.val (t : RowD) : Value := .agg #[.int .i64 t.played, .int .i64 t.wins, .int .i64 t.draws, .int .i64 t.losses, .int .i64 t.scored, .int .i64 t.against, .int .i64 t.points]
def RowD.fit (t : RowD) : Prop := IntFit t.played ∧ IntFit t.wins ∧ IntFit t.draws ∧ IntFit t.losses ∧ IntFit t.scored ∧ IntFit t.against ∧ IntFit t.points
theorem RowD.len (t : RowD) : t.cells.length = 7 := rfl
def RowRow (w : World) (v : Value) (n : Nat) (g : Nat → RowD) : Prop := RecRow 7 w v n fun i => (g i).cells
theorem RowRow.below {w w' : World} {B : Nat} {v : Value} {n : Nat} {g : Nat → RowD} (h : RowRow w v n g) (hb : Below B w w') (hB : w.heap.size ≤ B) : RowRow w' v n g := RecRow.below h hb hB
theorem RowRow.touch {lo hi lo' hi' : Nat} {w w' : World} {v : Value} {n : Nat} {g : Nat → RowD} (h : RowRow w v n g) (t : Touch lo hi w w') (hv : 0 < n → InW lo' hi' v) (ho : hi' ≤ lo ∨ hi ≤ lo') : RowRow w' v n g := RecRow.touch h t hv ho
theorem RowRow.form {w : World} {v : Value} {n : Nat} {g : Nat → RowD} (h : RowRow w v n g) : ∃ a cap, v = .slice a n cap ∧ n ≤ 9223372036854775807 ∧ (0 < n → ∃ b off, a = some ⟨b, off, none⟩ ∧ n ≤ cap ∧ ∀ i, i < n → CellsAt w b (off + i * 7) (g i).cells) := RecRow.form h
theorem InW.rowRow {hi : Nat} {v : Value} {w : World} {n : Nat} {g : Nat → RowD} (h : RowRow w v n g) (h0 : 0 < n) (hs : w.heap.size ≤ hi) : InW 0 hi v := RecRow.inw h h0 hs
theorem RowRow.of_owns {w : World} {base : Nat} {e : TypeId} {v : Value} {n : Nat} {xs : List Value} {g : Nat → RowD} (h : w.ownsRow base e 7 v n xs) (hn : n ≤ 9223372036854775807) (hg : RecCells 7 n xs fun i => (g i).cells) : RowRow w v n g := RecRow.of_owns h hn hg fun _ _ => Nat.le_refl _
theorem Tryz.infoRow : (Tryz.prog.info? 115).map (fun i => (i.zero, i.size, i.bytes)) = some (some (.agg #[.int .i64 0, .int .i64 0, .int .i64 0, .int .i64 0, .int .i64 0, .int .i64 0, .int .i64 0]), 7, 56) := by kernel_rfl
def rowMk (k : Int) (i : Nat) : RowD := ⟨k + 7 * (i : Int), k + 7 * (i : Int) + 1, k + 7 * (i : Int) + 1 + 1, k + 7 * (i : Int) + 1 + 1 + 1, k + 7 * (i : Int) + 1 + 1 + 1 + 1, k + 7 * (i : Int) + 1 + 1 + 1 + 1 + 1, k + 7 * (i : Int) + 1 + 1 + 1 + 1 + 1 + 1⟩
theorem tgrownRow {a b c : World} {row : Option Nat} (h : a.grownBy b row) (k : b.grownBy c row) : a.grownBy c row :=
  ⟨k.os.trans h.os, k.tape.trans h.tape, k.output.trans h.output, Nat.le_trans h.size k.size, fun i hi hne => (k.block i (Nat.lt_of_lt_of_le hi h.size) hne).trans (h.block i hi hne)⟩
section
open Go.ChangeShapes Go.WideShapes
variable {H : Type} {enc : TypeId × Value → H} {P : Program} {w : World} {base : Nat} {spare : Nat → Bool} {held : Bool}
theorem open_rows {t e : TypeId} {f0 f1 f2 f3 f4 f5 f6 : Field} {v : Value} (ht : P.underlying t = some (.slice e)) (he : P.underlying e = some (.struct #[f0, f1, f2, f3, f4, f5, f6]))
    (ce : P.cellsOf e = 7) (o0 : f0.offset = 0) (c0 : P.cellsOf f0.type = 1) (u0 : P.underlying f0.type = some (.int .i64)) (o1 : f1.offset = 1) (c1 : P.cellsOf f1.type = 1) (u1 : P.underlying f1.type = some (.int .i64)) (o2 : f2.offset = 2) (c2 : P.cellsOf f2.type = 1) (u2 : P.underlying f2.type = some (.int .i64)) (o3 : f3.offset = 3) (c3 : P.cellsOf f3.type = 1) (u3 : P.underlying f3.type = some (.int .i64)) (o4 : f4.offset = 4) (c4 : P.cellsOf f4.type = 1) (u4 : P.underlying f4.type = some (.int .i64)) (o5 : f5.offset = 5) (c5 : P.cellsOf f5.type = 1) (u5 : P.underlying f5.type = some (.int .i64)) (o6 : f6.offset = 6) (c6 : P.cellsOf f6.type = 1) (u6 : P.underlying f6.type = some (.int .i64))
    (h : ∃ (fuel : Nat) (x : DataW H × List MemPlace), DataW.trod enc P w base spare held fuel t [v] = some x) : ∃ (n : Nat) (g : Nat → RowD), RowRow w v n g ∧ (∀ i, (g i).fit) ∧ n ≤ 9223372036854775807 := by
  obtain ⟨fuel, x, h⟩ := h
  have hz : (default : RowD).fit := by simp [RowD.fit, IntFit, default]
  rcases Go.Deep.open_slice ht h with ⟨h0, _⟩ | ⟨a, len, cap, m, q, D, Pl, h0, hb, hl, hm, hmm, rfl, hx⟩
  · simp only [List.cons.injEq, and_true] at h0
    subst h0
    exact ⟨0, fun _ => default, .inl ⟨_, _, rfl, rfl⟩, fun _ => hz, by omega⟩
  simp only [List.cons.injEq, and_true] at h0
  subst h0
  have hlm : len ≤ m := by rw [hmm]; split <;> omega
  have each : ∀ i, i < len → ∃ q : RowD, (∀ j u, q.cells[j]? = some u → w.cell? ((a.add (i * 7)).add j) = some u) ∧ q.fit := by
    intro i hi
    obtain ⟨cs', h1, h2⟩ := hx i (by omega)
    rw [ce] at h1
    obtain ⟨_, hlen, hcell⟩ := World.cells?_some h1
    obtain ⟨xs, kk, hk, hxy, _, hxl, hf⟩ := DataW.trod_struct he h2
    match xs, hxl, cs', hlen with
    | [y0, y1, y2, y3, y4, y5, y6], _, [v0, v1, v2, v3, v4, v5, v6], _ =>
      have g0 := hf 0 f0 rfl
      simp [o0, c0] at g0
      obtain ⟨z0, e0, _, k0⟩ := DataW.trod_int u0 g0
      simp only [List.cons.injEq, and_true] at e0
      subst e0
      have g1 := hf 1 f1 rfl
      simp [o1, c1] at g1
      obtain ⟨z1, e1, _, k1⟩ := DataW.trod_int u1 g1
      simp only [List.cons.injEq, and_true] at e1
      subst e1
      have g2 := hf 2 f2 rfl
      simp [o2, c2] at g2
      obtain ⟨z2, e2, _, k2⟩ := DataW.trod_int u2 g2
      simp only [List.cons.injEq, and_true] at e2
      subst e2
      have g3 := hf 3 f3 rfl
      simp [o3, c3] at g3
      obtain ⟨z3, e3, _, k3⟩ := DataW.trod_int u3 g3
      simp only [List.cons.injEq, and_true] at e3
      subst e3
      have g4 := hf 4 f4 rfl
      simp [o4, c4] at g4
      obtain ⟨z4, e4, _, k4⟩ := DataW.trod_int u4 g4
      simp only [List.cons.injEq, and_true] at e4
      subst e4
      have g5 := hf 5 f5 rfl
      simp [o5, c5] at g5
      obtain ⟨z5, e5, _, k5⟩ := DataW.trod_int u5 g5
      simp only [List.cons.injEq, and_true] at e5
      subst e5
      have g6 := hf 6 f6 rfl
      simp [o6, c6] at g6
      obtain ⟨z6, e6, _, k6⟩ := DataW.trod_int u6 g6
      simp only [List.cons.injEq, and_true] at e6
      subst e6
      refine ⟨⟨z0, z1, z2, z3, z4, z5, z6⟩, fun j u hu => ?_, ⟨intFit_of k0, intFit_of k1, intFit_of k2, intFit_of k3, intFit_of k4, intFit_of k5, intFit_of k6⟩⟩
      have hj : j < 7 := (List.getElem?_eq_some_iff.1 hu).1
      rw [hcell j hj]
      exact hu
  obtain ⟨g, hg⟩ := Go.Deep.choose_lt each
  have hfit : ∀ i, (if i < len then g i else default : RowD).fit := fun i => by
    by_cases hi : i < len
    · simpa [hi] using (hg i hi).2
    · simpa [hi] using hz
  unfold maxLen at hm
  refine ⟨len, fun i => if i < len then g i else default, ?_, hfit, by omega⟩
  by_cases h0 : len = 0
  · subst h0; exact .inl ⟨_, _, rfl, rfl⟩
  · have hc0 := (hg 0 (by omega)).1 0 _ rfl
    obtain ⟨b, off, spot⟩ := a
    have hspot : spot = none := by simpa [Addr.add] using World.cell?_spot hc0
    subst hspot
    have hadd : ∀ j, (⟨b, off, none⟩ : Addr).add j = ⟨b, off + j, none⟩ := fun j => by unfold Addr.add; split <;> simp_all
    have hadd2 : ∀ o j, (⟨b, o, none⟩ : Addr).add j = ⟨b, o + j, none⟩ := fun o j => by unfold Addr.add; split <;> simp_all
    simp only [hadd, hadd2] at hc0
    refine .inr ⟨b, off, cap, rfl, by omega, by omega, fun i hi => ⟨World.block_lt_of_cell? w _ hc0, fun j u hu => ?_⟩, hl⟩
    have := (hg i hi).1
    simp only [hadd, hadd2] at this
    simp only [hi, if_true] at hu
    exact this j u hu
end
section
open Go.ChangeShapes Go.WideShapes
variable {H : Type} {enc : TypeId × Value → H} {P : Program} {w : World} {base : Nat} {spare : Nat → Bool} {held : Bool}
theorem open_row {r : Reach} {b0 : Nat} {e : TypeId} {f0 f1 f2 f3 f4 f5 f6 : Field} {v : Value} {d : DataW H} {pl : List MemPlace} (he : P.underlying e = some (.struct #[f0, f1, f2, f3, f4, f5, f6]))
    (ce : P.cellsOf e = 7) (o0 : f0.offset = 0) (c0 : P.cellsOf f0.type = 1) (u0 : P.underlying f0.type = some (.int .i64)) (o1 : f1.offset = 1) (c1 : P.cellsOf f1.type = 1) (u1 : P.underlying f1.type = some (.int .i64)) (o2 : f2.offset = 2) (c2 : P.cellsOf f2.type = 1) (u2 : P.underlying f2.type = some (.int .i64)) (o3 : f3.offset = 3) (c3 : P.cellsOf f3.type = 1) (u3 : P.underlying f3.type = some (.int .i64)) (o4 : f4.offset = 4) (c4 : P.cellsOf f4.type = 1) (u4 : P.underlying f4.type = some (.int .i64)) (o5 : f5.offset = 5) (c5 : P.cellsOf f5.type = 1) (u5 : P.underlying f5.type = some (.int .i64)) (o6 : f6.offset = 6) (c6 : P.cellsOf f6.type = 1) (u6 : P.underlying f6.type = some (.int .i64))
    (hv : Value.okWide P w r b0 e v) (h : DataW.Trod enc P w base spare held e v d pl) : ∃ q : RowD, v = q.val ∧ q.fit := by
  obtain ⟨cs, rfl, hsz⟩ := okWide_struct he hv
  obtain ⟨l⟩ := cs
  obtain ⟨fuel, h⟩ := h
  obtain ⟨xs, kk, hk, hxy, _, hxl, hf⟩ := DataW.trod_struct he h
  match xs, hxl, l, hsz.trans ce with
  | [y0, y1, y2, y3, y4, y5, y6], _, [v0, v1, v2, v3, v4, v5, v6], _ =>
      have g0 := hf 0 f0 rfl
      simp [Value.cells, o0, c0] at g0
      obtain ⟨z0, e0, _, k0⟩ := DataW.trod_int u0 g0
      simp only [List.cons.injEq, and_true] at e0
      subst e0
      have g1 := hf 1 f1 rfl
      simp [Value.cells, o1, c1] at g1
      obtain ⟨z1, e1, _, k1⟩ := DataW.trod_int u1 g1
      simp only [List.cons.injEq, and_true] at e1
      subst e1
      have g2 := hf 2 f2 rfl
      simp [Value.cells, o2, c2] at g2
      obtain ⟨z2, e2, _, k2⟩ := DataW.trod_int u2 g2
      simp only [List.cons.injEq, and_true] at e2
      subst e2
      have g3 := hf 3 f3 rfl
      simp [Value.cells, o3, c3] at g3
      obtain ⟨z3, e3, _, k3⟩ := DataW.trod_int u3 g3
      simp only [List.cons.injEq, and_true] at e3
      subst e3
      have g4 := hf 4 f4 rfl
      simp [Value.cells, o4, c4] at g4
      obtain ⟨z4, e4, _, k4⟩ := DataW.trod_int u4 g4
      simp only [List.cons.injEq, and_true] at e4
      subst e4
      have g5 := hf 5 f5 rfl
      simp [Value.cells, o5, c5] at g5
      obtain ⟨z5, e5, _, k5⟩ := DataW.trod_int u5 g5
      simp only [List.cons.injEq, and_true] at e5
      subst e5
      have g6 := hf 6 f6 rfl
      simp [Value.cells, o6, c6] at g6
      obtain ⟨z6, e6, _, k6⟩ := DataW.trod_int u6 g6
      simp only [List.cons.injEq, and_true] at e6
      subst e6
      exact ⟨⟨z0, z1, z2, z3, z4, z5, z6⟩, rfl, ⟨intFit_of k0, intFit_of k1, intFit_of k2, intFit_of k3, intFit_of k4, intFit_of k5, intFit_of k6⟩⟩
end
end Go.Proofs.YteciobkjfmddcaaGreatDoor
set_option linter.unusedVariables false
namespace Go.Proofs.YteciobkjfmddcaaGreatDoor
open Go.RowKit

structure GameD where
  home : Int
  away : Int
  hg : Int
  ag : Int
  st : Int
instance : Inhabited GameD := ⟨⟨0, 0, 0, 0, 0⟩⟩
def GameD.cells (t : GameD) : List Value := [.int .i64 t.home, .int .i64 t.away, .int .i64 t.hg, .int .i64 t.ag, .int .i64 t.st]
def GameD.val (t : GameD) : Value := .agg #[.int .i64 t.home, .int .i64 t.away, .int .i64 t.hg, .int .i64 t.ag, .int .i64 t.st]
def GameD.fit (t : GameD) : Prop := IntFit t.home ∧ IntFit t.away ∧ IntFit t.hg ∧ IntFit t.ag ∧ IntFit t.st
theorem GameD.len (t : GameD) : t.cells.length = 5 := rfl
def GameRow (w : World) (v : Value) (n : Nat) (g : Nat → GameD) : Prop := RecRow 5 w v n fun i => (g i).cells
theorem GameRow.below {w w' : World} {B : Nat} {v : Value} {n : Nat} {g : Nat → GameD} (h : GameRow w v n g) (hb : Below B w w') (hB : w.heap.size ≤ B) : GameRow w' v n g := RecRow.below h hb hB
theorem GameRow.touch {lo hi lo' hi' : Nat} {w w' : World} {v : Value} {n : Nat} {g : Nat → GameD} (h : GameRow w v n g) (t : Touch lo hi w w') (hv : 0 < n → InW lo' hi' v) (ho : hi' ≤ lo ∨ hi ≤ lo') : GameRow w' v n g := RecRow.touch h t hv ho
theorem GameRow.form {w : World} {v : Value} {n : Nat} {g : Nat → GameD} (h : GameRow w v n g) : ∃ a cap, v = .slice a n cap ∧ n ≤ 9223372036854775807 ∧ (0 < n → ∃ b off, a = some ⟨b, off, none⟩ ∧ n ≤ cap ∧ ∀ i, i < n → CellsAt w b (off + i * 5) (g i).cells) := RecRow.form h
theorem InW.gameRow {hi : Nat} {v : Value} {w : World} {n : Nat} {g : Nat → GameD} (h : GameRow w v n g) (h0 : 0 < n) (hs : w.heap.size ≤ hi) : InW 0 hi v := RecRow.inw h h0 hs
theorem GameRow.of_owns {w : World} {base : Nat} {e : TypeId} {v : Value} {n : Nat} {xs : List Value} {g : Nat → GameD} (h : w.ownsRow base e 5 v n xs) (hn : n ≤ 9223372036854775807) (hg : RecCells 5 n xs fun i => (g i).cells) : GameRow w v n g := RecRow.of_owns h hn hg fun _ _ => Nat.le_refl _
theorem Tryz.infoGame : (Tryz.prog.info? 93).map (fun i => (i.zero, i.size, i.bytes)) = some (some (.agg #[.int .i64 0, .int .i64 0, .int .i64 0, .int .i64 0, .int .i64 0]), 5, 40) := by kernel_rfl
def gameMk (k : Int) (i : Nat) : GameD := ⟨k + 5 * (i : Int), k + 5 * (i : Int) + 1, k + 5 * (i : Int) + 1 + 1, k + 5 * (i : Int) + 1 + 1 + 1, k + 5 * (i : Int) + 1 + 1 + 1 + 1⟩
theorem tgrownGame {a b c : World} {row : Option Nat} (h : a.grownBy b row) (k : b.grownBy c row) : a.grownBy c row :=
  ⟨k.os.trans h.os, k.tape.trans h.tape, k.output.trans h.output, Nat.le_trans h.size k.size, fun i hi hne => (k.block i (Nat.lt_of_lt_of_le hi h.size) hne).trans (h.block i hi hne)⟩
section
open Go.ChangeShapes Go.WideShapes
variable {H : Type} {enc : TypeId × Value → H} {P : Program} {w : World} {base : Nat} {spare : Nat → Bool} {held : Bool}
theorem open_games {t e : TypeId} {f0 f1 f2 f3 f4 : Field} {v : Value} (ht : P.underlying t = some (.slice e)) (he : P.underlying e = some (.struct #[f0, f1, f2, f3, f4]))
    (ce : P.cellsOf e = 5) (o0 : f0.offset = 0) (c0 : P.cellsOf f0.type = 1) (u0 : P.underlying f0.type = some (.int .i64)) (o1 : f1.offset = 1) (c1 : P.cellsOf f1.type = 1) (u1 : P.underlying f1.type = some (.int .i64)) (o2 : f2.offset = 2) (c2 : P.cellsOf f2.type = 1) (u2 : P.underlying f2.type = some (.int .i64)) (o3 : f3.offset = 3) (c3 : P.cellsOf f3.type = 1) (u3 : P.underlying f3.type = some (.int .i64)) (o4 : f4.offset = 4) (c4 : P.cellsOf f4.type = 1) (u4 : P.underlying f4.type = some (.int .i64))
    (h : ∃ (fuel : Nat) (x : DataW H × List MemPlace), DataW.trod enc P w base spare held fuel t [v] = some x) : ∃ (n : Nat) (g : Nat → GameD), GameRow w v n g ∧ (∀ i, (g i).fit) ∧ n ≤ 9223372036854775807 := by
  obtain ⟨fuel, x, h⟩ := h
  have hz : (default : GameD).fit := by simp [GameD.fit, IntFit, default]
  rcases Go.Deep.open_slice ht h with ⟨h0, _⟩ | ⟨a, len, cap, m, q, D, Pl, h0, hb, hl, hm, hmm, rfl, hx⟩
  · simp only [List.cons.injEq, and_true] at h0
    subst h0
    exact ⟨0, fun _ => default, .inl ⟨_, _, rfl, rfl⟩, fun _ => hz, by omega⟩
  simp only [List.cons.injEq, and_true] at h0
  subst h0
  have hlm : len ≤ m := by rw [hmm]; split <;> omega
  have each : ∀ i, i < len → ∃ q : GameD, (∀ j u, q.cells[j]? = some u → w.cell? ((a.add (i * 5)).add j) = some u) ∧ q.fit := by
    intro i hi
    obtain ⟨cs', h1, h2⟩ := hx i (by omega)
    rw [ce] at h1
    obtain ⟨_, hlen, hcell⟩ := World.cells?_some h1
    obtain ⟨xs, kk, hk, hxy, _, hxl, hf⟩ := DataW.trod_struct he h2
    match xs, hxl, cs', hlen with
    | [y0, y1, y2, y3, y4], _, [v0, v1, v2, v3, v4], _ =>
      have g0 := hf 0 f0 rfl
      simp [o0, c0] at g0
      obtain ⟨z0, e0, _, k0⟩ := DataW.trod_int u0 g0
      simp only [List.cons.injEq, and_true] at e0
      subst e0
      have g1 := hf 1 f1 rfl
      simp [o1, c1] at g1
      obtain ⟨z1, e1, _, k1⟩ := DataW.trod_int u1 g1
      simp only [List.cons.injEq, and_true] at e1
      subst e1
      have g2 := hf 2 f2 rfl
      simp [o2, c2] at g2
      obtain ⟨z2, e2, _, k2⟩ := DataW.trod_int u2 g2
      simp only [List.cons.injEq, and_true] at e2
      subst e2
      have g3 := hf 3 f3 rfl
      simp [o3, c3] at g3
      obtain ⟨z3, e3, _, k3⟩ := DataW.trod_int u3 g3
      simp only [List.cons.injEq, and_true] at e3
      subst e3
      have g4 := hf 4 f4 rfl
      simp [o4, c4] at g4
      obtain ⟨z4, e4, _, k4⟩ := DataW.trod_int u4 g4
      simp only [List.cons.injEq, and_true] at e4
      subst e4
      refine ⟨⟨z0, z1, z2, z3, z4⟩, fun j u hu => ?_, ⟨intFit_of k0, intFit_of k1, intFit_of k2, intFit_of k3, intFit_of k4⟩⟩
      have hj : j < 5 := (List.getElem?_eq_some_iff.1 hu).1
      rw [hcell j hj]
      exact hu
  obtain ⟨g, hg⟩ := Go.Deep.choose_lt each
  have hfit : ∀ i, (if i < len then g i else default : GameD).fit := fun i => by
    by_cases hi : i < len
    · simpa [hi] using (hg i hi).2
    · simpa [hi] using hz
  unfold maxLen at hm
  refine ⟨len, fun i => if i < len then g i else default, ?_, hfit, by omega⟩
  by_cases h0 : len = 0
  · subst h0; exact .inl ⟨_, _, rfl, rfl⟩
  · have hc0 := (hg 0 (by omega)).1 0 _ rfl
    obtain ⟨b, off, spot⟩ := a
    have hspot : spot = none := by simpa [Addr.add] using World.cell?_spot hc0
    subst hspot
    have hadd : ∀ j, (⟨b, off, none⟩ : Addr).add j = ⟨b, off + j, none⟩ := fun j => by unfold Addr.add; split <;> simp_all
    have hadd2 : ∀ o j, (⟨b, o, none⟩ : Addr).add j = ⟨b, o + j, none⟩ := fun o j => by unfold Addr.add; split <;> simp_all
    simp only [hadd, hadd2] at hc0
    refine .inr ⟨b, off, cap, rfl, by omega, by omega, fun i hi => ⟨World.block_lt_of_cell? w _ hc0, fun j u hu => ?_⟩, hl⟩
    have := (hg i hi).1
    simp only [hadd, hadd2] at this
    simp only [hi, if_true] at hu
    exact this j u hu
end
section
open Go.ChangeShapes Go.WideShapes
variable {H : Type} {enc : TypeId × Value → H} {P : Program} {w : World} {base : Nat} {spare : Nat → Bool} {held : Bool}
theorem open_game {r : Reach} {b0 : Nat} {e : TypeId} {f0 f1 f2 f3 f4 : Field} {v : Value} {d : DataW H} {pl : List MemPlace} (he : P.underlying e = some (.struct #[f0, f1, f2, f3, f4]))
    (ce : P.cellsOf e = 5) (o0 : f0.offset = 0) (c0 : P.cellsOf f0.type = 1) (u0 : P.underlying f0.type = some (.int .i64)) (o1 : f1.offset = 1) (c1 : P.cellsOf f1.type = 1) (u1 : P.underlying f1.type = some (.int .i64)) (o2 : f2.offset = 2) (c2 : P.cellsOf f2.type = 1) (u2 : P.underlying f2.type = some (.int .i64)) (o3 : f3.offset = 3) (c3 : P.cellsOf f3.type = 1) (u3 : P.underlying f3.type = some (.int .i64)) (o4 : f4.offset = 4) (c4 : P.cellsOf f4.type = 1) (u4 : P.underlying f4.type = some (.int .i64))
    (hv : Value.okWide P w r b0 e v) (h : DataW.Trod enc P w base spare held e v d pl) : ∃ q : GameD, v = q.val ∧ q.fit := by
  obtain ⟨cs, rfl, hsz⟩ := okWide_struct he hv
  obtain ⟨l⟩ := cs
  obtain ⟨fuel, h⟩ := h
  obtain ⟨xs, kk, hk, hxy, _, hxl, hf⟩ := DataW.trod_struct he h
  match xs, hxl, l, hsz.trans ce with
  | [y0, y1, y2, y3, y4], _, [v0, v1, v2, v3, v4], _ =>
      have g0 := hf 0 f0 rfl
      simp [Value.cells, o0, c0] at g0
      obtain ⟨z0, e0, _, k0⟩ := DataW.trod_int u0 g0
      simp only [List.cons.injEq, and_true] at e0
      subst e0
      have g1 := hf 1 f1 rfl
      simp [Value.cells, o1, c1] at g1
      obtain ⟨z1, e1, _, k1⟩ := DataW.trod_int u1 g1
      simp only [List.cons.injEq, and_true] at e1
      subst e1
      have g2 := hf 2 f2 rfl
      simp [Value.cells, o2, c2] at g2
      obtain ⟨z2, e2, _, k2⟩ := DataW.trod_int u2 g2
      simp only [List.cons.injEq, and_true] at e2
      subst e2
      have g3 := hf 3 f3 rfl
      simp [Value.cells, o3, c3] at g3
      obtain ⟨z3, e3, _, k3⟩ := DataW.trod_int u3 g3
      simp only [List.cons.injEq, and_true] at e3
      subst e3
      have g4 := hf 4 f4 rfl
      simp [Value.cells, o4, c4] at g4
      obtain ⟨z4, e4, _, k4⟩ := DataW.trod_int u4 g4
      simp only [List.cons.injEq, and_true] at e4
      subst e4
      exact ⟨⟨z0, z1, z2, z3, z4⟩, rfl, ⟨intFit_of k0, intFit_of k1, intFit_of k2, intFit_of k3, intFit_of k4⟩⟩
end
end Go.Proofs.YteciobkjfmddcaaGreatDoor
set_option linter.unusedVariables false
namespace Go.Proofs.YteciobkjfmddcaaGreatDoor
open Go.RowKit

def firstI (p : Nat → Bool) : Nat → Nat → Int
  | 0, _ => -1
  | r + 1, k => if p k = true then (k : Int) else firstI p r (k + 1)
theorem firstI_pos (p : Nat → Bool) (r : Nat) : ∀ k, 0 ≤ firstI p r k ↔ ∃ j, k ≤ j ∧ j < k + r ∧ p j = true := by
  induction r with
  | zero => intro k; unfold firstI; constructor
            · intro h; omega
            · rintro ⟨j, h1, h2, _⟩; omega
  | succ r ih =>
    intro k
    unfold firstI
    by_cases h : p k = true
    · rw [if_pos h]
      exact ⟨fun _ => ⟨k, Nat.le_refl _, by omega, h⟩, fun _ => by omega⟩
    · rw [if_neg h, ih (k + 1)]
      constructor
      · rintro ⟨j, h1, h2, h3⟩; exact ⟨j, by omega, by omega, h3⟩
      · rintro ⟨j, h1, h2, h3⟩
        refine ⟨j, ?_, by omega, h3⟩
        rcases Nat.lt_or_ge k j with h4 | h4
        · omega
        · obtain rfl : j = k := by omega
          exact absurd h3 h
theorem firstI_step {p : Nat → Bool} {k n : Nat} (h : k < n) : firstI p (n - k) k = if p k = true then (k : Int) else firstI p (n - (k + 1)) (k + 1) := by
  rw [show n - k = n - (k + 1) + 1 by omega]; rfl
theorem firstI_ge (p : Nat → Bool) (r : Nat) : ∀ k, firstI p r k = -1 ∨ (k : Int) ≤ firstI p r k ∧ firstI p r k < (k : Int) + r := by
  induction r with
  | zero => intro k; exact .inl rfl
  | succ r ih =>
    intro k
    unfold firstI
    by_cases h : p k = true
    · rw [if_pos h]; right; omega
    · rw [if_neg h]
      rcases ih (k + 1) with h1 | h1
      · exact .inl h1
      · right; omega
theorem firstI_congr {p q : Nat → Bool} (r : Nat) : ∀ k, (∀ i, k ≤ i → i < k + r → p i = q i) → firstI p r k = firstI q r k := by
  induction r with
  | zero => intro k _; rfl
  | succ r ih =>
    intro k h
    unfold firstI
    rw [h k (Nat.le_refl _) (by omega), ih (k + 1) fun i h1 h2 => h i (by omega) (by omega)]
theorem firstI_eq {p : Nat → Bool} (r : Nat) : ∀ k j, firstI p r k = (j : Nat) ↔ (k ≤ j ∧ j < k + r) ∧ p j = true ∧ ∀ i, k ≤ i → i < j → p i = false := by
  induction r with
  | zero => intro k j; unfold firstI; constructor
            · intro h; omega
            · rintro ⟨h, _⟩; omega
  | succ r ih =>
    intro k j
    unfold firstI
    by_cases h : p k = true
    · rw [if_pos h]
      constructor
      · intro e
        obtain rfl : k = j := by omega
        exact ⟨by omega, h, fun i h1 h2 => by omega⟩
      · rintro ⟨h1, h2, h3⟩
        by_cases e : k = j
        · rw [e]
        · have := h3 k (Nat.le_refl _) (by omega)
          rw [h] at this; cases this
    · rw [if_neg h, ih (k + 1) j]
      have hk : p k = false := by simpa using h
      constructor
      · rintro ⟨h1, h2, h3⟩
        refine ⟨by omega, h2, fun i h4 h5 => ?_⟩
        by_cases e : i = k
        · rw [e]; exact hk
        · exact h3 i (by omega) h5
      · rintro ⟨h1, h2, h3⟩
        have : k ≠ j := fun e => by rw [e] at hk; rw [hk] at h2; cases h2
        exact ⟨by omega, h2, fun i h4 h5 => h3 i (by omega) h5⟩
def idxL (p : Nat → Bool) : Nat → List Int
  | 0 => []
  | k + 1 => if p k = true then idxL p k ++ [(k : Int)] else idxL p k
theorem idxL_yes {p : Nat → Bool} {k : Nat} (h : p k = true) : idxL p (k + 1) = idxL p k ++ [(k : Int)] := if_pos h
theorem idxL_no {p : Nat → Bool} {k : Nat} (h : p k = false) : idxL p (k + 1) = idxL p k := if_neg (by rw [h]; simp)
theorem idxL_len (p : Nat → Bool) : ∀ k, (idxL p k).length ≤ k := by
  intro k
  induction k with
  | zero => exact Nat.le_refl _
  | succ k ih =>
    unfold idxL
    split
    · simp; omega
    · omega
theorem idxL_congr {p q : Nat → Bool} : ∀ k, (∀ i, i < k → p i = q i) → idxL p k = idxL q k := by
  intro k
  induction k with
  | zero => intro _; rfl
  | succ k ih => intro h; unfold idxL; rw [h k (by omega), ih fun i hi => h i (by omega)]
def IntsL (w : World) (L : List Int) (e : Ending) (w' : World) : Prop :=
  ∃ v, e = .returned v ∧ w'.ownsRow w.heap.size 3 1 v L.length (L.map (Value.int .i64)) ∧ Below w.heap.size w w'
theorem IntsL.made {w w' : World} {L : List Int} {e : Ending} (h : IntsL w L e w') (hl : L.length ≤ 9223372036854775807) :
    ∃ v, e = .returned v ∧ IntRow w' v L.length (getI L) ∧ (∃ xs, w'.ownsRow w.heap.size 3 1 v L.length xs) ∧ Below w.heap.size w w' := by
  obtain ⟨v, he, ho, hb⟩ := h
  exact ⟨v, he, IntRow.of_list ho (by omega), ⟨_, ho⟩, hb⟩
end Go.Proofs.YteciobkjfmddcaaGreatDoor
set_option linter.unusedVariables false
namespace Go.Proofs.YteciobkjfmddcaaGreatDoor
open Go.RowKit


def gameP (n : Int) (t : GameD) : Prop :=
  (2 ≤ n ∧ n ≤ 8) ∧ (0 ≤ t.home ∧ t.home ≤ n - 1) ∧ (0 ≤ t.away ∧ t.away ≤ n - 1) ∧ t.home ≠ t.away ∧ (0 ≤ t.st ∧ t.st ≤ 4) ∧
    ((t.st = 1 ∧ (0 ≤ t.hg ∧ t.hg ≤ 99) ∧ (0 ≤ t.ag ∧ t.ag ≤ 99)) ∨ (t.st ≠ 1 ∧ t.hg = 0 ∧ t.ag = 0))
def goalsD (t : GameD) : Int × Int × Bool := if t.st = 1 then (t.hg, t.ag, true) else if t.st = 2 then (3, 0, true) else if t.st = 3 then (0, 3, true) else (0, 0, false)
def outcomeD (t : GameD) : Int := if (goalsD t).2.2 = true then (if (goalsD t).2.1 < (goalsD t).1 then 1 else if (goalsD t).1 = (goalsD t).2.1 then 2 else 3) else 0
def playD (t : GameD) (o : Int) : GameD := if 1 ≤ o ∧ o ≤ 3 then ⟨t.home, t.away, if o = 1 then 1 else 0, if o = 3 then 1 else 0, 1⟩ else t
end Go.Proofs.YteciobkjfmddcaaGreatDoor
set_option linter.unusedVariables false
namespace Go.Proofs.YteciobkjfmddcaaGreatDoor
open Go.RowKit

def atG (g : Nat → GameD) (h a : Int) (i : Nat) : Bool := (g i).home == h && (g i).away == a
theorem game_cells {w : World} {b o : Nat} {x : GameD} (h : CellsAt w b o x.cells) : w.cell? ⟨b, o, none⟩ = some (.int .i64 x.home) ∧ w.cell? ⟨b, o + 1, none⟩ = some (.int .i64 x.away) ∧ w.cell? ⟨b, o + 2, none⟩ = some (.int .i64 x.hg) ∧
    w.cell? ⟨b, o + 3, none⟩ = some (.int .i64 x.ag) ∧ w.cell? ⟨b, o + 4, none⟩ = some (.int .i64 x.st) := ⟨h.2 0 _ rfl, h.2 1 _ rfl, h.2 2 _ rfl, h.2 3 _ rfl, h.2 4 _ rfl⟩
def betweenG (a b : Int) (t : GameD) : Bool := (t.home == a && t.away == b) || (t.home == b && t.away == a)
end Go.Proofs.YteciobkjfmddcaaGreatDoor
set_option linter.unusedVariables false
namespace Go.Proofs.YteciobkjfmddcaaGreatDoor
open Go.RowKit

def seasonP (n : Int) (m : Nat) (g : Nat → GameD) : Prop := m ≤ 60 ∧ ∀ i, i < m → gameP n (g i) ∧ firstI (atG g (g i).home (g i).away) m 0 = (i : Int)
end Go.Proofs.YteciobkjfmddcaaGreatDoor
set_option linter.unusedVariables false
namespace Go.Proofs.YteciobkjfmddcaaGreatDoor
open Go.RowKit

def addW (a b : RowD) : RowD := ⟨wrap64 (a.played + b.played), wrap64 (a.wins + b.wins), wrap64 (a.draws + b.draws), wrap64 (a.losses + b.losses), wrap64 (a.scored + b.scored), wrap64 (a.against + b.against), wrap64 (a.points + b.points)⟩
def zeroR : RowD := ⟨0, 0, 0, 0, 0, 0, 0⟩
theorem row_cells {w : World} {b o : Nat} {x : RowD} (h : CellsAt w b o x.cells) : w.cell? ⟨b, o, none⟩ = some (.int .i64 x.played) ∧ w.cell? ⟨b, o + 1, none⟩ = some (.int .i64 x.wins) ∧ w.cell? ⟨b, o + 2, none⟩ = some (.int .i64 x.draws) ∧ w.cell? ⟨b, o + 3, none⟩ = some (.int .i64 x.losses) ∧ w.cell? ⟨b, o + 4, none⟩ = some (.int .i64 x.scored) ∧ w.cell? ⟨b, o + 5, none⟩ = some (.int .i64 x.against) ∧ w.cell? ⟨b, o + 6, none⟩ = some (.int .i64 x.points) := ⟨h.2 0 _ rfl, h.2 1 _ rfl, h.2 2 _ rfl, h.2 3 _ rfl, h.2 4 _ rfl, h.2 5 _ rfl, h.2 6 _ rfl⟩

theorem cell_at_alloc {w : World} {b i : Nat} {v : Value} (h : w.cell? ⟨b, i, none⟩ = some v) (o : Obj) : (w.alloc o).cell? ⟨b, i, none⟩ = some v := by
  have hb := World.block_lt_of_cell? w _ h
  exact (((Below.refl w.heap.size w).alloc (Nat.le_refl _) o).cell (p := ⟨b, i, none⟩) hb).trans h

def playedN (g : Nat → RowD) : Nat → Int
  | 0 => 0
  | k + 1 => wrap64 (playedN g k + (g k).played)
def leadP (g : Nat → RowD) : Nat → Int
  | 0 => -1
  | k + 1 => if leadP g k < 0 then (k : Int) else if (g (leadP g k).toNat).points < (g k).points then (k : Int) else leadP g k
theorem leadP_lt (g : Nat → RowD) : ∀ k, leadP g k = -1 ∨ (0 ≤ leadP g k ∧ leadP g k < k)
  | 0 => .inl rfl
  | k + 1 => by
    unfold leadP
    have := leadP_lt g k
    split
    · right; omega
    · split <;> (right; omega)
end Go.Proofs.YteciobkjfmddcaaGreatDoor
