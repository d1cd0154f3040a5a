/-
  Contracts of ParseInt, program and model.
-/
import Derived.Test.YtgdahjcngkokfaaDoorTextA
import Derived.Test.YtgdahjcngkokfaaDoorIntFmt
set_option linter.unusedVariables false
namespace Go.Proofs.YtgdahjcngkokfaaDoor
open Go.RowKit

theorem bat_list (t : ByteArray) (k : Nat) (h : k < t.data.toList.length) : bat t k = (t.data.toList[k]).toNat := by
  rw [bat_of t k (by simpa using h)]; rfl
theorem size_list (t : ByteArray) : t.data.toList.length = t.size := Array.length_toList
theorem digits_list {t : ByteArray} (h : t.data.toList ≠ []) (hd : ∀ b ∈ t.data.toList, 48 ≤ b.toNat ∧ b.toNat ≤ 57) : digits t = true := by
  have h0 : 0 < t.size := by rw [← size_list]; exact List.length_pos_iff.2 h
  refine digits_all t h0 fun k hk => dgB_mk ?_
  have hk' : k < t.data.toList.length := by rw [size_list]; exact hk
  rw [bat_list t k hk']
  have := hd _ (List.getElem_mem hk')
  omega
theorem digits_at {t : ByteArray} (h : digits t = true) (k : Nat) (hk : k < t.size) : 48 ≤ bat t k ∧ bat t k ≤ 57 := by
  simp only [digits, decide_eq_true_eq] at h
  have := dgB_yes (h.2 k hk)
  omega
def vk (t : ByteArray) (k : Nat) : Nat := valL (t.data.toList.take k)
theorem vk_succ (t : ByteArray) (k : Nat) (h : k < t.size) : vk t (k + 1) = vk t k * 10 + (bat t k - 48) := by
  have hk' : k < t.data.toList.length := by rw [size_list]; exact h
  unfold vk
  rw [List.take_succ_eq_append_getElem hk', valL_snoc, bat_list t k hk']
theorem vk_all (t : ByteArray) : vk t t.size = valL t.data.toList := by
  unfold vk; rw [List.take_of_length_le (by rw [size_list]; exact Nat.le_refl _)]
theorem vk_le (t : ByteArray) (k : Nat) (h : k ≤ t.size) : vk t k ≤ vk t t.size := valL_take_le _ _ _ h

/-- what both answer at s -/
def ParsePost (s : ByteArray) (w : World) (e : Ending) (w' : World) : Prop := ∃ v b, e = .returned (.tuple #[.int .i64 v, .bool b]) ∧ parsed s.data.toList v b ∧ Below w.heap.size w w'
theorem ParsePost.no {s : ByteArray} {w w' : World} (h : ∀ n, isInt n → Lib.itoa n ≠ s.data.toList) (hb : Below w.heap.size w w') : ParsePost s w (.returned (.tuple #[.int .i64 0, .bool false])) w' :=
  ⟨0, false, rfl, ⟨rfl, h⟩, hb⟩
theorem ParsePost.yes {s : ByteArray} {w w' : World} {v : Int} (hi : isInt v) (h : Lib.itoa v = s.data.toList) (hb : Below w.heap.size w w') : ParsePost s w (.returned (.tuple #[.int .i64 v, .bool true])) w' :=
  ⟨v, true, rfl, ⟨hi, h⟩, hb⟩

/-- no int spells s without a sign, if .. -/
theorem no_pos (s : ByteArray) (hs : ∀ r, s.data.toList ≠ 45 :: r) (h : digits s = true → s.size ≤ 19 → vk s s.size ≤ 9223372036854775807 → Lib.itoa (vk s s.size) ≠ s.data.toList) : ∀ n, isInt n → Lib.itoa n ≠ s.data.toList := by
  intro n hn he
  obtain ⟨h1, h2, h3, h4, h5⟩ := canon_pos hn he hs
  rw [size_list] at h3
  rw [← vk_all] at h4 h5
  exact h (digits_list h1 h2) h3 h4 (h5 ▸ he)
theorem no_neg (s t : ByteArray) (hs : s.data.toList = 45 :: t.data.toList) (h : digits t = true → t.size ≤ 19 → vk t t.size ≤ 9223372036854775808 → Lib.itoa (-(vk t t.size : Int)) ≠ s.data.toList) : ∀ n, isInt n → Lib.itoa n ≠ s.data.toList := by
  intro n hn he
  rw [hs] at he
  obtain ⟨h1, h2, h3, h4, h5⟩ := canon_neg hn he
  rw [size_list] at h3
  rw [← vk_all] at h4 h5
  exact h (digits_list h1 h2) h3 h4 (by rw [← h5, hs]; exact he)
theorem head_neg (s : ByteArray) (h : 0 < s.size) (hb : bat s 0 = 45) : s.data.toList = 45 :: (s.extract 1 s.size).data.toList := by
  have hk : 0 < s.data.toList.length := by rw [size_list]; exact h
  have h0 := bat_list s 0 hk
  cases hl : s.data.toList with
  | nil => rw [hl] at hk; simp at hk
  | cons b r =>
    have hb0 : b = 45 := by
      rw [hb] at h0
      simp only [hl, List.getElem_cons_zero] at h0
      exact UInt8.toNat_inj.1 h0.symm
    rw [hb0]
    congr 1
    have : (s.extract 1 s.size).data.toList = s.data.toList.drop 1 := by
      rw [ByteArray.data_extract, Array.toList_extract]
      simp only [List.extract_eq_take_drop]
      rw [List.take_of_length_le (by rw [List.length_drop, size_list]; omega)]
    rw [this, hl]; rfl
theorem head_pos (s : ByteArray) (h : ¬ (0 < s.size ∧ bat s 0 = 45)) : ∀ r, s.data.toList ≠ 45 :: r := by
  intro r hr
  have hk : 0 < s.data.toList.length := by rw [hr]; simp
  apply h
  refine ⟨by rw [← size_list]; exact hk, ?_⟩
  rw [bat_list s 0 hk]
  simp only [hr, List.getElem_cons_zero]
  rfl

theorem over_lt (v b : Nat) (hb : 48 ≤ b ∧ b ≤ 57) (h : ¬ v * 10 + (b - 48) ≤ 9223372036854775808) : -(v : Int) < (-9223372036854775808 + ((b : Int) - 48)).tdiv 10 := by
  have : (-9223372036854775808 + ((b : Int) - 48)) = -(9223372036854775856 - (b : Int)) := by omega
  rw [this, Int.neg_tdiv, Int.tdiv_eq_ediv_of_nonneg (by omega)]
  omega
theorem fits_le (v b : Nat) (hb : 48 ≤ b ∧ b ≤ 57) (h : v * 10 + (b - 48) ≤ 9223372036854775808) : (-9223372036854775808 + ((b : Int) - 48)).tdiv 10 ≤ -(v : Int) := by
  have : (-9223372036854775808 + ((b : Int) - 48)) = -(9223372036854775856 - (b : Int)) := by omega
  rw [this, Int.neg_tdiv, Int.tdiv_eq_ediv_of_nonneg (by omega)]
  omega

theorem parseInt_spec (s : ByteArray) (w : World) (hs : s.size ≤ 1048576) :
    Calls Tryd.prog 15 #[.string s] w (ParsePost s w) := by
  by_cases h0 : 0 < s.size ∧ bat s 0 = 45
  · obtain ⟨h0, h45⟩ := h0
    have g0 : decide ((0 : Int) < (s.size : Int)) = true := decide_eq_true (by omega)
    have hne := no_neg s (s.extract 1 s.size) (head_neg s h0 h45)
    have g1 : (((s[0]'h0).toNat : Int) == 45) = true := by rw [bat_of s 0 h0] at h45; simp; omega
    have hts : (s.extract 1 s.size).size ≤ 1048576 := by rw [ByteArray.size_extract]; omega
    clear h45
    obtain ⟨tt, htt⟩ : ∃ tt, tt = s.extract 1 s.size := ⟨_, rfl⟩
    rw [← htt] at hne hts
    have hne := Lib.hid hne
    have Htt := Lib.hid htt
    have hsl : s.extract 1 s.size = tt := htt.symm
    clear htt
    have C := isDigits_spec tt
    by_cases hd : digits tt = true
    · have C' : Hid (∀ w, Calls Tryd.prog 26 #[.string tt] w fun e w' => e = .returned (.bool true) ∧ w = w') := fun w => by have := C w (by unfold maxLen; omega); rwa [hd] at this
      have Hd := Lib.hid hd
      clear C hd
      by_cases h19 : tt.size ≤ 19
      · have g2 : decide ((19 : Int) < (tt.size : Int)) = false := decide_eq_false (by omega)
        go_enter Tryd.func15, Tryd.ntmps15
        go_wp2_with (go_at_call 26; refine (C'.out _).mono ?_; rintro e w' ⟨rfl, rfl⟩)
        clear C'
        go_loop [6, 7] (fun nv i => ∃ (k v : Nat), k ≤ tt.size ∧ i = .int .i64 k ∧ nv = .int .i64 (-(v : Int)) ∧ v ≤ 9223372036854775808 ∧ Hid (v = vk tt k)) (fun _ i => tt.size - (intOf i).toNat)
        case atStart => exact ⟨0, 0, Nat.zero_le _, rfl, by go_num, by omega, rfl⟩
        case round =>
          obtain ⟨k, v, hk, rfl, rfl, hv, hvk⟩ := hrel
          by_cases hlt : k < tt.size
          · have hbk := bat_of tt k hlt
            have hdk := digits_at Hd.out k hlt
            rw [hbk] at hdk
            have Hs : Hid (vk tt (k + 1) = v * 10 + ((tt[k]'hlt).toNat - 48)) := by show _ = _; rw [vk_succ tt k hlt, ← hvk.out, hbk]
            clear hbk
            by_cases hov : v * 10 + ((tt[k]'hlt).toNat - 48) ≤ 9223372036854775808
            · have hq := fits_le v _ hdk hov
              obtain ⟨hd1, hd2⟩ := hdk
              go_wp2
              go_round
              case rel => exact ⟨k + 1, v * 10 + ((tt[k]'hlt).toNat - 48), by omega, by go_num, by go_num, hov, Hs.out.symm⟩
              case measure => simp [intOf]; omega
            · have hq := over_lt v _ hdk hov
              have hno := Lib.hid (hne.out (fun _ _ hle => absurd (Nat.le_trans (vk_le tt (k + 1) hlt) hle) (by rw [Hs.out]; omega)))
              obtain ⟨hd1, hd2⟩ := hdk
              clear hov
              go_wp2
              go_ret2
              exact ParsePost.no hno.out (Below.refl _ _)
          · obtain rfl : k = tt.size := by omega
            have hi : isInt (-(v : Int)) := by unfold isInt; omega
            have CF : Hid (∀ w, Calls Tryd.prog 14 #[.int .i64 (-(v : Int))] w fun e w' => e = .returned (.string ⟨(Lib.itoa (-(v : Int))).toArray⟩) ∧ Below w.heap.size w w') := fun w => formatInt_spec _ w hi
            by_cases hit : Lib.itoa (-(v : Int)) = s.data.toList
            · have Hy : Hid (isInt (-(v : Int)) ∧ Lib.itoa (-(v : Int)) = s.data.toList) := ⟨hi, hit⟩
              rw [hit] at CF
              clear hit hi
              go_wp2_with (go_at_call 14; refine (CF.out _).mono ?_; rintro e w1 ⟨rfl, b1⟩)
              go_ret2
              exact ParsePost.yes Hy.out.1 Hy.out.2 (by assumption)
            · have hno := Lib.hid (hne.out (fun _ _ _ => by rw [← hvk.out]; exact hit))
              have hz : (Lib.itoa (-(v : Int)) == s.toList) = false := by rw [ByteArray.toList_eq]; simpa using hit
              clear hit hi
              generalize Lib.itoa (-(v : Int)) = Z at *
              go_wp2_with (go_at_call 14; refine (CF.out _).mono ?_; rintro e w1 ⟨rfl, b1⟩)
              go_ret2
              exact ParsePost.no hno.out (by assumption)
      · have g2 : decide ((19 : Int) < (tt.size : Int)) = true := decide_eq_true (by omega)
        have hno := Lib.hid (hne.out (fun _ h _ => absurd h h19))
        clear h19
        go_enter Tryd.func15, Tryd.ntmps15
        go_wp2_with (go_at_call 26; refine (C'.out _).mono ?_; rintro e w' ⟨rfl, rfl⟩)
        go_ret2
        exact ParsePost.no hno.out (Below.refl _ _)
    · have hno := Lib.hid (hne.out (fun h _ _ => absurd h hd))
      have C' : Hid (∀ w, Calls Tryd.prog 26 #[.string tt] w fun e w' => e = .returned (.bool false) ∧ w = w') := fun w => by have := C w (by unfold maxLen; omega); rwa [show digits tt = false by simpa using hd] at this
      clear C hd
      go_enter Tryd.func15, Tryd.ntmps15
      go_wp2_with (go_at_call 26; refine (C'.out _).mono ?_; rintro e w' ⟨rfl, rfl⟩)
      go_ret2
      exact ParsePost.no hno.out (Below.refl _ _)
  · have hne := Lib.hid (no_pos s (head_pos s h0))
    have hhead : (0 < s.size ∧ True) ∨ ¬ 0 < s.size := by by_cases h : 0 < s.size
                                                          · exact .inl ⟨h, trivial⟩
                                                          · exact .inr h
    rcases hhead with ⟨hp, _⟩ | hp
    rotate_left
    · have g0 : decide ((0 : Int) < (s.size : Int)) = false := decide_eq_false (by omega)
      have hd : digits s = false := digits_nil s hp
      have hno := Lib.hid (hne.out (fun h _ _ => absurd h (by rw [hd]; decide)))
      have C' : Hid (∀ w, Calls Tryd.prog 26 #[.string s] w fun e w' => e = .returned (.bool false) ∧ w = w') := fun w => by have := isDigits_spec s w (by unfold maxLen; omega); rwa [hd] at this
      clear hd h0
      go_enter Tryd.func15, Tryd.ntmps15
      go_wp2_with (go_at_call 26; refine (C'.out _).mono ?_; rintro e w' ⟨rfl, rfl⟩)
      go_ret2
      exact ParsePost.no hno.out (Below.refl _ _)
    have g0 : decide ((0 : Int) < (s.size : Int)) = true := decide_eq_true (by omega)
    have g1 : (((s[0]'hp).toNat : Int) == 45) = false := by
      have h45 : ¬ bat s 0 = 45 := fun h => h0 ⟨hp, h⟩
      rw [bat_of s 0 hp] at h45; simp; omega
    clear h0
    have C := isDigits_spec s
    by_cases hd : digits s = true
    · have C' : Hid (∀ w, Calls Tryd.prog 26 #[.string s] w fun e w' => e = .returned (.bool true) ∧ w = w') := fun w => by have := C w (by unfold maxLen; omega); rwa [hd] at this
      have Hd := Lib.hid hd
      clear C hd
      by_cases h19 : s.size ≤ 19
      · have g2 : decide ((19 : Int) < (s.size : Int)) = false := decide_eq_false (by omega)
        go_enter Tryd.func15, Tryd.ntmps15
        go_wp2_with (go_at_call 26; refine (C'.out _).mono ?_; rintro e w' ⟨rfl, rfl⟩)
        clear C'
        go_loop [6, 7] (fun nv i => ∃ (k v : Nat), k ≤ s.size ∧ i = .int .i64 k ∧ nv = .int .i64 (-(v : Int)) ∧ v ≤ 9223372036854775808 ∧ Hid (v = vk s k)) (fun _ i => s.size - (intOf i).toNat)
        case atStart => exact ⟨0, 0, Nat.zero_le _, rfl, by go_num, by omega, rfl⟩
        case round =>
          obtain ⟨k, v, hk, rfl, rfl, hv, hvk⟩ := hrel
          by_cases hlt : k < s.size
          · have hbk := bat_of s k hlt
            have hdk := digits_at Hd.out k hlt
            rw [hbk] at hdk
            have Hs : Hid (vk s (k + 1) = v * 10 + ((s[k]'hlt).toNat - 48)) := by show _ = _; rw [vk_succ s k hlt, ← hvk.out, hbk]
            clear hbk
            by_cases hov : v * 10 + ((s[k]'hlt).toNat - 48) ≤ 9223372036854775808
            · have hq := fits_le v _ hdk hov
              obtain ⟨hd1, hd2⟩ := hdk
              go_wp2
              go_round
              case rel => exact ⟨k + 1, v * 10 + ((s[k]'hlt).toNat - 48), by omega, by go_num, by go_num, hov, Hs.out.symm⟩
              case measure => simp [intOf]; omega
            · have hq := over_lt v _ hdk hov
              have hno := Lib.hid (hne.out (fun _ _ hle => absurd (Nat.le_trans (vk_le s (k + 1) hlt) hle) (by rw [Hs.out]; omega)))
              obtain ⟨hd1, hd2⟩ := hdk
              clear hov
              go_wp2
              go_ret2
              exact ParsePost.no hno.out (Below.refl _ _)
          · obtain rfl : k = s.size := by omega
            by_cases hmin : v = 9223372036854775808
            · have hno := Lib.hid (hne.out (fun _ _ hle => absurd hle (by rw [← hvk.out]; omega)))
              have hq : (-(v : Int) == -9223372036854775808) = true := by simp; omega
              clear hmin
              go_wp2
              go_ret2
              exact ParsePost.no hno.out (Below.refl _ _)
            have hq : (-(v : Int) == -9223372036854775808) = false := by simp; omega
            have hi : isInt ((v : Int)) := by unfold isInt; omega
            have CF : Hid (∀ w, Calls Tryd.prog 14 #[.int .i64 ((v : Int))] w fun e w' => e = .returned (.string ⟨(Lib.itoa ((v : Int))).toArray⟩) ∧ Below w.heap.size w w') := fun w => formatInt_spec _ w hi
            by_cases hit : Lib.itoa ((v : Int)) = s.data.toList
            · have Hy : Hid (isInt ((v : Int)) ∧ Lib.itoa ((v : Int)) = s.data.toList) := ⟨hi, hit⟩
              rw [hit] at CF
              clear hit hi
              go_wp2_with (go_at_call 14; refine (CF.out _).mono ?_; rintro e w1 ⟨rfl, b1⟩)
              go_ret2
              exact ParsePost.yes Hy.out.1 Hy.out.2 (by assumption)
            · have hno := Lib.hid (hne.out (fun _ _ _ => by rw [← hvk.out]; exact hit))
              have hz : (Lib.itoa ((v : Int)) == s.toList) = false := by rw [ByteArray.toList_eq]; simpa using hit
              clear hit hi
              generalize Lib.itoa ((v : Int)) = Z at *
              go_wp2_with (go_at_call 14; refine (CF.out _).mono ?_; rintro e w1 ⟨rfl, b1⟩)
              go_ret2
              exact ParsePost.no hno.out (by assumption)
      · have g2 : decide ((19 : Int) < (s.size : Int)) = true := decide_eq_true (by omega)
        have hno := Lib.hid (hne.out (fun _ h _ => absurd h h19))
        clear h19
        go_enter Tryd.func15, Tryd.ntmps15
        go_wp2_with (go_at_call 26; refine (C'.out _).mono ?_; rintro e w' ⟨rfl, rfl⟩)
        go_ret2
        exact ParsePost.no hno.out (Below.refl _ _)
    · have hno := Lib.hid (hne.out (fun h _ _ => absurd h hd))
      have C' : Hid (∀ w, Calls Tryd.prog 26 #[.string s] w fun e w' => e = .returned (.bool false) ∧ w = w') := fun w => by have := C w (by unfold maxLen; omega); rwa [show digits s = false by simpa using hd] at this
      clear C hd
      go_enter Tryd.func15, Tryd.ntmps15
      go_wp2_with (go_at_call 26; refine (C'.out _).mono ?_; rintro e w' ⟨rfl, rfl⟩)
      go_ret2
      exact ParsePost.no hno.out (Below.refl _ _)
end Go.Proofs.YtgdahjcngkokfaaDoor
