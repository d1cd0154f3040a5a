/-
  Rule books: the keys' names. KeyName, KeyNamed, IsMutual of the model and of the program.
-/
import Derived.Test.YtcfolfjpimolaaaInts
import Derived.Test.YtcfolfjpimolaaaTextA
set_option linter.unusedVariables false
namespace Go.Proofs.Ytcfolfjpimolaaa
open Go.RowKit

theorem barr_ne {x y : ByteArray} (h : x ≠ y) : (x.toList == y.toList) = false := by
  rw [beq_eq_false_iff_ne, ne_eq, ByteArray.toList_eq, ByteArray.toList_eq]
  exact fun e => h (ByteArray.ext (Array.toList_inj.mp e))
/-- the name of key number k -/
def knm (k : Nat) : ByteArray := match k with
  | 1 => ⟨#[112, 111, 105, 110, 116, 115]⟩
  | 2 => ⟨#[100, 105, 102, 102, 101, 114, 101, 110, 99, 101]⟩
  | 3 => ⟨#[115, 99, 111, 114, 101, 100]⟩
  | 4 => ⟨#[119, 105, 110, 115]⟩
  | 5 => ⟨#[109, 117, 116, 117, 97, 108]⟩
  | 6 => ⟨#[109, 117, 116, 117, 97, 108, 100, 105, 102, 102, 101, 114, 101, 110, 99, 101]⟩
  | 7 => ⟨#[102, 97, 105, 114]⟩
  | 8 => ⟨#[115, 101, 101, 100]⟩
  | _ => ⟨#[]⟩
theorem l03Names_any (w : World) :
    Calls Try.prog 42 #[] w fun e w' => e = .returned (.slice (some ⟨w.heap.size, 0, none⟩) 8 8) ∧ (∀ i, i < 8 → w'.cell? ⟨w.heap.size, i, none⟩ = some (.string (knm (i + 1)))) ∧ Below w.heap.size w w' := by
  go_enter Try.func42, Try.ntmps42
  go_wp2
  go_ret
  refine ⟨rfl, fun i hi => ?_, (Below.refl _ _).alloc (Nat.le_refl _) _⟩
  rw [cell_of_row _ w.heap.size i _ _ (0, 0) (heap_alloc_new w _)]
  have : i = 0 ∨ i = 1 ∨ i = 2 ∨ i = 3 ∨ i = 4 ∨ i = 5 ∨ i = 6 ∨ i = 7 := by omega
  rcases this with rfl | rfl | rfl | rfl | rfl | rfl | rfl | rfl <;> rfl
theorem keyName_yes (k : Nat) (w : World) (h1 : 1 ≤ k) (h8 : k ≤ 8) :
    Calls Try.prog 20 #[.int .i64 (k : Int)] w fun e w' => e = .returned (.string (knm k)) ∧ Below w.heap.size w w' := by
  obtain ⟨j, rfl⟩ : ∃ j, k = j + 1 := ⟨k - 1, by omega⟩
  go_enter Try.func20, Try.ntmps20
  go_wp2_with (go_at_call 41; refine (l01In_yes _ _ _ _ (by omega)).mono ?_; rintro e w' ⟨rfl, rfl⟩)
  refine (l03Names_any _).mono ?_
  rintro e w1 ⟨rfl, hc, hb⟩
  have c1 := hc j (by omega)
  clear hc
  generalize hs : knm (j + 1) = s at *
  have Hs := Lib.hid hs
  clear hs
  go_wp2
  go_ret
  exact ⟨by rw [Hs.out]; rfl, hb⟩
theorem keyName_no (k : Int) (w : World) (h : ¬ (1 ≤ k ∧ k ≤ 8)) :
    Calls Try.prog 20 #[.int .i64 k] w fun e w' => e = .returned (.string ⟨#[]⟩) ∧ Below w.heap.size w w' := by
  go_enter Try.func20, Try.ntmps20
  go_wp2_with (go_at_call 41; refine (l01In_no _ _ _ _ h).mono ?_; rintro e w' ⟨rfl, rfl⟩)
  go_ret
  exact ⟨rfl, Below.refl _ _⟩
theorem keyNameI_yes (k : Nat) (w : World) (h1 : 1 ≤ k) (h8 : k ≤ 8) :
    Calls Try.prog 18 #[.int .i64 (k : Int)] w fun e w' => e = .returned (.string (knm k)) ∧ w = w' := by
  have : k = 1 ∨ k = 2 ∨ k = 3 ∨ k = 4 ∨ k = 5 ∨ k = 6 ∨ k = 7 ∨ k = 8 := by omega
  rcases this with rfl | rfl | rfl | rfl | rfl | rfl | rfl | rfl
  all_goals
    go_enter Try.func18, Try.ntmps18
    go_wp2
    go_ret
    exact ⟨rfl, rfl⟩
theorem keyNameI_no (k : Int) (w : World) (h : ¬ (1 ≤ k ∧ k ≤ 8)) :
    Calls Try.prog 18 #[.int .i64 k] w fun e w' => e = .returned (.string ⟨#[]⟩) ∧ w = w' := by
  have g1 : (k == 1) = false := beq_eq_false_iff_ne.2 (by omega)
  have g2 : (k == 2) = false := beq_eq_false_iff_ne.2 (by omega)
  have g3 : (k == 3) = false := beq_eq_false_iff_ne.2 (by omega)
  have g4 : (k == 4) = false := beq_eq_false_iff_ne.2 (by omega)
  have g5 : (k == 5) = false := beq_eq_false_iff_ne.2 (by omega)
  have g6 : (k == 6) = false := beq_eq_false_iff_ne.2 (by omega)
  have g7 : (k == 7) = false := beq_eq_false_iff_ne.2 (by omega)
  have g8 : (k == 8) = false := beq_eq_false_iff_ne.2 (by omega)
  clear h
  go_enter Try.func18, Try.ntmps18
  go_wp2
  go_ret
  exact ⟨rfl, rfl⟩
/-- a key's name, of any number -/
def knmI (k : Int) : ByteArray := if 1 ≤ k ∧ k ≤ 8 then knm k.toNat else ⟨#[]⟩
theorem keyName_spec (k : Int) (w : World) :
    Calls Try.prog 20 #[.int .i64 k] w fun e w' => e = .returned (.string (knmI k)) ∧ Below w.heap.size w w' := by
  unfold knmI
  by_cases h : 1 ≤ k ∧ k ≤ 8
  · rw [if_pos h]
    obtain ⟨j, rfl⟩ : ∃ j : Nat, k = j := ⟨k.toNat, by omega⟩
    rw [Int.toNat_natCast]
    exact keyName_yes j w (by omega) (by omega)
  · rw [if_neg h]
    exact keyName_no k w h
theorem keyName_impl (k : Int) (w : World) :
    Calls Try.prog 18 #[.int .i64 k] w fun e w' => e = .returned (.string (knmI k)) ∧ w = w' := by
  unfold knmI
  by_cases h : 1 ≤ k ∧ k ≤ 8
  · rw [if_pos h]
    obtain ⟨j, rfl⟩ : ∃ j : Nat, k = j := ⟨k.toNat, by omega⟩
    rw [Int.toNat_natCast]
    exact keyNameI_yes j w (by omega) (by omega)
  · rw [if_neg h]
    exact keyNameI_no k w h

/-- the first key from k on, of r more, whose name is s; else 0 -/
def keyOf (s : ByteArray) : Nat → Nat → Nat
  | 0, _ => 0
  | r + 1, k => if knm k = s then k else keyOf s r (k + 1)
theorem keyNamed_spec (s : ByteArray) (w : World) :
    Calls Try.prog 21 #[.string s] w fun e w' => e = .returned (.int .i64 ((keyOf s 8 1 : Nat) : Int)) ∧ Below w.heap.size w w' := by
  generalize hr : keyOf s 8 1 = R
  have HR := Lib.hid hr
  clear hr
  go_enter Try.func21, Try.ntmps21
  go_wp2_with fail
  refine (l03Names_any _).mono ?_
  rintro e w1 ⟨rfl, hc, hb⟩
  have HC := Lib.hid hc
  clear hc
  go_wp2
  go_loop [7] (fun i => ∃ k : Nat, k ≤ 8 ∧ i = .int .i64 k ∧ Hid (keyOf s (8 - k) (k + 1) = R)) (fun i => 8 - (intOf i).toNat)
  case atStart => exact ⟨0, Nat.zero_le _, rfl, HR.out⟩
  case round =>
    obtain ⟨k, hk, rfl, hp⟩ := hrel
    by_cases hlt : k < 8
    · have c1 := HC.out k hlt
      have hstep : (if knm (k + 1) = s then k + 1 else keyOf s (8 - (k + 1)) (k + 1 + 1)) = R := by
        have := hp.out
        rw [show 8 - k = 8 - (k + 1) + 1 by omega] at this
        exact this
      clear HC hp HR
      generalize knm (k + 1) = z at *
      by_cases hx : z = s
      · rw [if_pos hx] at hstep
        subst hstep
        subst hx
        go_wp2
        go_ret
        exact ⟨rfl, hb⟩
      · rw [if_neg hx] at hstep
        have HS := Lib.hid hstep
        have g1 : (z.toList == s.toList) = false := barr_ne hx
        clear hx hstep
        go_wp2
        go_round
        case rel => exact ⟨k + 1, by omega, by go_num, HS.out⟩
        case measure => simp [intOf]; omega
    · obtain rfl : k = 8 := by omega
      have hR : R = 0 := by rw [← hp.out]; rfl
      subst hR
      clear hp HR HC
      go_wp2
      go_ret
      exact ⟨rfl, hb⟩
theorem keyNamed_impl (s : ByteArray) (w : World) :
    Calls Try.prog 17 #[.string s] w fun e w' => e = .returned (.int .i64 ((keyOf s 8 1 : Nat) : Int)) ∧ w = w' := by
  generalize hr : keyOf s 8 1 = R
  have HR := Lib.hid hr
  clear hr
  go_enter Try.func17, Try.ntmps17
  go_wp2
  go_loop [3] (fun i => ∃ k : Nat, k ≤ 8 ∧ i = .int .i64 ((k : Int) + 1) ∧ Hid (keyOf s (8 - k) (k + 1) = R)) (fun i => 9 - (intOf i).toNat)
  case atStart => exact ⟨0, Nat.zero_le _, rfl, HR.out⟩
  case round =>
    obtain ⟨k, hk, rfl, hp⟩ := hrel
    by_cases hlt : k < 8
    · have hstep : (if knm (k + 1) = s then k + 1 else keyOf s (8 - (k + 1)) (k + 1 + 1)) = R := by
        have := hp.out
        rw [show 8 - k = 8 - (k + 1) + 1 by omega] at this
        exact this
      have C := Lib.hid (fun w => keyNameI_yes (k + 1) w (by omega) (by omega))
      clear hp HR
      generalize knm (k + 1) = z at *
      by_cases hx : z = s
      · rw [if_pos hx] at hstep
        subst hstep
        subst hx
        go_wp2_with fail
        rw [show ((k : Int) + 1) = ((k + 1 : Nat) : Int) by omega]
        refine (C.out _).mono ?_
        rintro e w' ⟨rfl, rfl⟩
        go_wp2
        go_ret
        exact ⟨rfl, rfl⟩
      · rw [if_neg hx] at hstep
        have HS := Lib.hid hstep
        have g1 : (z.toList == s.toList) = false := barr_ne hx
        clear hx hstep
        go_wp2_with fail
        rw [show ((k : Int) + 1) = ((k + 1 : Nat) : Int) by omega]
        refine (C.out _).mono ?_
        rintro e w' ⟨rfl, rfl⟩
        go_wp2
        go_round
        case rel => exact ⟨k + 1, by omega, by go_num, HS.out⟩
        case measure => simp [intOf]; omega
    · obtain rfl : k = 8 := by omega
      have hR : R = 0 := by rw [← hp.out]; rfl
      subst hR
      clear hp HR
      go_wp2
      go_ret
      exact ⟨rfl, rfl⟩

def mutualB (k : Int) : Bool := decide (k = 5 ∨ k = 6)
theorem isMutual_spec (k : Int) (w : World) : Calls Try.prog 22 #[.int .i64 k] w fun e w' => e = .returned (.bool (mutualB k)) ∧ w = w' := by
  generalize hr : mutualB k = R
  unfold mutualB at hr
  by_cases h5 : k = 5
  · subst h5
    obtain rfl : R = true := by simpa using hr.symm
    clear hr
    go_enter Try.func22, Try.ntmps22
    go_wp2
    go_ret
    exact ⟨rfl, rfl⟩
  by_cases h6 : k = 6
  · subst h6
    obtain rfl : R = true := by simpa using hr.symm
    clear hr h5
    go_enter Try.func22, Try.ntmps22
    go_wp2
    go_ret
    exact ⟨rfl, rfl⟩
  · obtain rfl : R = false := by simpa [h5, h6] using hr.symm
    have g5 : (k == 5) = false := beq_eq_false_iff_ne.2 h5
    have g6 : (k == 6) = false := beq_eq_false_iff_ne.2 h6
    clear hr h5 h6
    go_enter Try.func22, Try.ntmps22
    go_wp2
    go_ret
    exact ⟨rfl, rfl⟩
theorem isMutual_impl (k : Int) (w : World) : Calls Try.prog 23 #[.int .i64 k] w fun e w' => e = .returned (.bool (mutualB k)) ∧ w = w' := by
  generalize hr : mutualB k = R
  unfold mutualB at hr
  by_cases h5 : k = 5
  · subst h5
    obtain rfl : R = true := by simpa using hr.symm
    clear hr
    go_enter Try.func23, Try.ntmps23
    go_wp2
    go_ret
    exact ⟨rfl, rfl⟩
  by_cases h6 : k = 6
  · subst h6
    obtain rfl : R = true := by simpa using hr.symm
    clear hr h5
    go_enter Try.func23, Try.ntmps23
    go_wp2
    go_ret
    exact ⟨rfl, rfl⟩
  · obtain rfl : R = false := by simpa [h5, h6] using hr.symm
    have g5 : (k == 5) = false := beq_eq_false_iff_ne.2 h5
    have g6 : (k == 6) = false := beq_eq_false_iff_ne.2 h6
    clear hr h5 h6
    go_enter Try.func23, Try.ntmps23
    go_wp2
    go_ret
    exact ⟨rfl, rfl⟩
end Go.Proofs.Ytcfolfjpimolaaa
