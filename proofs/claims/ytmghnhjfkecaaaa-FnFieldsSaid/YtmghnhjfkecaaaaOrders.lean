/-
  Orders: lists of numbers of teams. The model's l02Has, IsOrder, PlaceOf.
-/
import Derived.Test.YtmghnhjfkecaaaaInts
import Derived.Test.YtmghnhjfkecaaaaTextA
set_option linter.unusedVariables false
namespace Go.Proofs.Ytmghnhjfkecaaaa
open Go.RowKit

/-- x is among the first n -/
def hasP (g : Nat → Int) (x : Int) (n : Nat) : Prop := ∃ j, j < n ∧ g j = x
theorem hasP_at {g : Nat → Int} {x : Int} {n j : Nat} (h : j < n) (hg : g j = x) : hasP g x n := ⟨j, h, hg⟩
theorem l02Has_yes (v : Value) (n : Nat) (g : Nat → Int) (x : Int) (w : World) (h : IntRow w v n g) (hp : hasP g x n) :
    Calls Try.prog 51 #[v, .int .i64 x] w fun e w' => e = .returned (.bool true) ∧ w = w' := by
  obtain ⟨a, cap, rfl, hn, hv⟩ := h.form
  have HV := Lib.hid hv
  have HP := Lib.hid hp
  clear hv h hp
  go_enter Try.func51, Try.ntmps51
  go_wp2
  go_loop [9] (fun i => ∃ k : Nat, k ≤ n ∧ i = .int .i64 k ∧ Hid (∀ j, j < k → g j ≠ x)) (fun i => n - (intOf i).toNat)
  case atStart => exact ⟨0, Nat.zero_le _, rfl, fun j hj => absurd hj (by omega)⟩
  case round =>
    obtain ⟨k, hk, rfl, hno⟩ := hrel
    by_cases hlt : k < n
    · obtain ⟨b, off, rfl, hc⟩ := HV.out (by omega)
      have c1 := hc k hlt
      have HK := Lib.hid (rfl : g k = g k)
      have HN : ∀ y, g k = y → y ≠ x → Hid (∀ j, j < k + 1 → g j ≠ x) := fun y hy hx j hj => by
        by_cases hjk : j = k
        · rw [hjk, hy]; exact hx
        · exact hno.out j (by omega)
      have HN := Lib.hid HN
      generalize hy : g k = y at *
      have HY := Lib.hid hy
      clear hc HV hno hy HK
      by_cases hx : y = x
      · subst hx
        go_wp2
        go_ret
        exact ⟨rfl, rfl⟩
      · have g1 : (y == x) = false := by simpa using hx
        have HX := Lib.hid hx
        clear hx
        go_wp2
        go_round
        case rel => exact ⟨k + 1, by omega, by go_num, HN.out _ rfl HX.out⟩
        case measure => simp [intOf]; omega
    · obtain ⟨j, hj, hjx⟩ := HP.out
      exact absurd hjx (hno.out j (by omega))
theorem l02Has_no (v : Value) (n : Nat) (g : Nat → Int) (x : Int) (w : World) (h : IntRow w v n g) (hp : ¬ hasP g x n) :
    Calls Try.prog 51 #[v, .int .i64 x] w fun e w' => e = .returned (.bool false) ∧ w = w' := by
  obtain ⟨a, cap, rfl, hn, hv⟩ := h.form
  have HV := Lib.hid hv
  have HP := Lib.hid hp
  clear hv h hp
  go_enter Try.func51, Try.ntmps51
  go_wp2
  go_loop [9] (fun i => ∃ k : Nat, k ≤ n ∧ i = .int .i64 k) (fun i => n - (intOf i).toNat)
  case atStart => exact ⟨0, Nat.zero_le _, rfl⟩
  case round =>
    obtain ⟨k, hk, rfl⟩ := hrel
    by_cases hlt : k < n
    · obtain ⟨b, off, rfl, hc⟩ := HV.out (by omega)
      have c1 := hc k hlt
      have g1 : (g k == x) = false := by
        simp only [beq_eq_false_iff_ne, ne_eq]
        exact fun h => HP.out (hasP_at hlt h)
      clear hc HV
      generalize g k = y at *
      go_wp2
      go_round
      case rel => exact ⟨k + 1, by omega, by go_num⟩
      case measure => simp [intOf]; omega
    · go_wp2
      go_ret
      exact ⟨rfl, rfl⟩

/-- the first index from k on, of r more, where g is x; else -1 -/
def placeI (g : Nat → Int) (x : Int) : Nat → Nat → Int
  | 0, _ => -1
  | r + 1, k => if g k = x then (k : Int) else placeI g x r (k + 1)
theorem placeOf_spec (v : Value) (n : Nat) (g : Nat → Int) (x : Int) (w : World) (h : IntRow w v n g) :
    Calls Try.prog 38 #[v, .int .i64 x] w fun e w' => e = .returned (.int .i64 (placeI g x n 0)) ∧ w = w' := by
  obtain ⟨a, cap, rfl, hn, hv⟩ := h.form
  have HV := Lib.hid hv
  clear hv h
  generalize hr : placeI g x n 0 = R
  have HR := Lib.hid hr
  clear hr
  go_enter Try.func38, Try.ntmps38
  go_wp2
  go_loop [9] (fun i => ∃ k : Nat, k ≤ n ∧ i = .int .i64 k ∧ Hid (placeI g x (n - k) k = R)) (fun i => n - (intOf i).toNat)
  case atStart => exact ⟨0, Nat.zero_le _, rfl, HR.out⟩
  case round =>
    obtain ⟨k, hk, rfl, hp⟩ := hrel
    by_cases hlt : k < n
    · obtain ⟨b, off, rfl, hc⟩ := HV.out (by omega)
      have c1 := hc k hlt
      have hstep : (if g k = x then (k : Int) else placeI g x (n - (k + 1)) (k + 1)) = R := by
        have := hp.out
        rw [show n - k = n - (k + 1) + 1 by omega] at this
        exact this
      clear hc HV hp
      by_cases hx : g k = x
      · rw [if_pos hx] at hstep
        subst hstep
        clear HR
        rw [hx] at c1
        clear hx
        go_wp2
        go_ret
        exact ⟨rfl, rfl⟩
      · rw [if_neg hx] at hstep
        have HS := Lib.hid hstep
        have g1 : (g k == x) = false := by simpa using hx
        clear hx hstep
        generalize g k = y at c1 g1
        go_wp2
        go_round
        case rel => exact ⟨k + 1, by omega, by go_num, HS.out⟩
        case measure => simp [intOf]; omega
    · obtain rfl : k = n := by omega
      have hR : R = -1 := by rw [← hp.out, Nat.sub_self]; rfl
      subst hR
      clear hp HR
      go_wp2
      go_ret
      exact ⟨rfl, rfl⟩

/-- the list holds each number from 0 to m, m not counted, once; m from 0 to 8 -/
def orderP (m : Int) (n : Nat) (g : Nat → Int) : Prop := (0 ≤ m ∧ m ≤ 8) ∧ (n : Int) = m ∧ ∀ i, i < n → (0 ≤ g i ∧ g i ≤ m - 1) ∧ ¬ hasP g (g i) i
theorem IntRow.take {w : World} {b off cap n : Nat} {g : Nat → Int} (k : Nat) (hk : k ≤ n) (hn : n ≤ 9223372036854775807) (hcap : n ≤ cap) (h : ∀ i, i < n → w.cell? ⟨b, off + i, none⟩ = some (.int .i64 (g i))) :
    IntRow w (.slice (some ⟨b, off, none⟩) k cap) k g := by
  by_cases h0 : k = 0
  · subst h0; exact .inl ⟨_, _, rfl, rfl⟩
  · exact .inr ⟨b, off, cap, rfl, by omega, by omega, fun i hi => h i (by omega), by omega⟩
theorem isOrder_yes (m : Int) (v : Value) (n : Nat) (g : Nat → Int) (w : World) (h : IntRow w v n g) (hp : orderP m n g) :
    Calls Try.prog 36 #[.int .i64 m, v] w fun e w' => e = .returned (.bool true) ∧ w = w' := by
  obtain ⟨hm, hnm, hall⟩ := hp
  obtain rfl : m = (n : Int) := hnm.symm
  clear hnm
  obtain ⟨a, cap, rfl, hn, hv⟩ : ∃ a cap, v = .slice a n cap ∧ n ≤ 9223372036854775807 ∧ (0 < n → ∃ b off, a = some ⟨b, off, none⟩ ∧ n ≤ cap ∧ ∀ i, i < n → w.cell? ⟨b, off + i, none⟩ = some (.int .i64 (g i))) := by
    rcases h with ⟨a, cap, rfl, rfl⟩ | ⟨b, off, cap, rfl, _, hn, hc, hcap⟩
    · exact ⟨_, _, rfl, by omega, fun h => absurd h (by omega)⟩
    · exact ⟨_, _, rfl, hn, fun _ => ⟨b, off, rfl, hcap, hc⟩⟩
  have HV := Lib.hid hv
  have HA := Lib.hid hall
  clear hv h hall
  go_enter Try.func36, Try.ntmps36
  go_wp2_with (go_at_call 47; refine (l01In_yes _ _ _ _ (by omega)).mono ?_; rintro e w' ⟨rfl, rfl⟩)
  go_loop [18] (fun i => ∃ k : Nat, k ≤ n ∧ i = .int .i64 k) (fun i => n - (intOf i).toNat)
  case atStart => exact ⟨0, Nat.zero_le _, rfl⟩
  case round =>
    obtain ⟨k, hk, rfl⟩ := hrel
    by_cases hlt : k < n
    · obtain ⟨b, off, rfl, hcap, hc⟩ := HV.out (by omega)
      have c1 := hc k hlt
      obtain ⟨hx, hno⟩ := HA.out k hlt
      have HT := Lib.hid (IntRow.take k hk hn hcap hc)
      have HNO := Lib.hid hno
      clear hc HV HA hno
      generalize g k = x at *
      have hk9 : (k : Int) ≤ cap := by omega
      go_wp2_with (first | (go_at_call 47; refine (l01In_yes _ _ _ _ (by omega)).mono ?_; rintro e w' ⟨rfl, rfl⟩) | (go_at_call 51; refine (l02Has_no _ k g x _ HT.out HNO.out).mono ?_; rintro e w' ⟨rfl, rfl⟩))
      go_round
      case rel => exact ⟨k + 1, by omega, by go_num⟩
      case measure => simp [intOf]; omega
    · go_wp2
      go_ret
      exact ⟨rfl, rfl⟩
theorem isOrder_no (m : Int) (v : Value) (n : Nat) (g : Nat → Int) (w : World) (h : IntRow w v n g) (hp : ¬ orderP m n g) :
    Calls Try.prog 36 #[.int .i64 m, v] w fun e w' => e = .returned (.bool false) ∧ w = w' := by
  obtain ⟨a, cap, rfl, hn, hv⟩ : ∃ a cap, v = .slice a n cap ∧ n ≤ 9223372036854775807 ∧ (0 < n → ∃ b off, a = some ⟨b, off, none⟩ ∧ n ≤ cap ∧ ∀ i, i < n → w.cell? ⟨b, off + i, none⟩ = some (.int .i64 (g i))) := by
    rcases h with ⟨a, cap, rfl, rfl⟩ | ⟨b, off, cap, rfl, _, hn, hc, hcap⟩
    · exact ⟨_, _, rfl, by omega, fun h => absurd h (by omega)⟩
    · exact ⟨_, _, rfl, hn, fun _ => ⟨b, off, rfl, hcap, hc⟩⟩
  have HV := Lib.hid hv
  clear hv h
  by_cases hm : ¬ (0 ≤ m ∧ m ≤ 8)
  · clear hp HV
    go_enter Try.func36, Try.ntmps36
    go_wp2_with (go_at_call 47; refine (l01In_no _ _ _ _ hm).mono ?_; rintro e w' ⟨rfl, rfl⟩)
    go_ret
    exact ⟨rfl, rfl⟩
  replace hm := Decidable.not_not.1 hm
  by_cases hnm : ¬ (n : Int) = m
  · have g1 : ((n : Int) != m) = true := by simpa using hnm
    clear hp HV hnm
    go_enter Try.func36, Try.ntmps36
    go_wp2_with (go_at_call 47; refine (l01In_yes _ _ _ _ hm).mono ?_; rintro e w' ⟨rfl, rfl⟩)
    go_ret
    exact ⟨rfl, rfl⟩
  replace hnm := Decidable.not_not.1 hnm
  subst hnm
  have HA : Hid (¬ ∀ i, i < n → (0 ≤ g i ∧ g i ≤ (n : Int) - 1) ∧ ¬ hasP g (g i) i) := fun h => hp ⟨hm, rfl, h⟩
  clear hp
  go_enter Try.func36, Try.ntmps36
  go_wp2_with (go_at_call 47; refine (l01In_yes _ _ _ _ (by omega)).mono ?_; rintro e w' ⟨rfl, rfl⟩)
  go_loop [18] (fun i => ∃ k : Nat, k ≤ n ∧ i = .int .i64 k ∧ Hid (∀ i, i < k → (0 ≤ g i ∧ g i ≤ (n : Int) - 1) ∧ ¬ hasP g (g i) i)) (fun i => n - (intOf i).toNat)
  case atStart => exact ⟨0, Nat.zero_le _, rfl, fun i hi => absurd hi (by omega)⟩
  case round =>
    obtain ⟨k, hk, rfl, hok⟩ := hrel
    by_cases hlt : k < n
    · obtain ⟨b, off, rfl, hcap, hc⟩ := HV.out (by omega)
      have c1 := hc k hlt
      have HT := Lib.hid (IntRow.take k hk hn hcap hc)
      have HS : Hid (((0 ≤ g k ∧ g k ≤ (n : Int) - 1) ∧ ¬ hasP g (g k) k) → ∀ i, i < k + 1 → (0 ≤ g i ∧ g i ≤ (n : Int) - 1) ∧ ¬ hasP g (g i) i) := fun h i hi => by
        by_cases hik : i = k
        · subst hik; exact h
        · exact hok.out i (by omega)
      clear hc HV HA hok
      by_cases hx : 0 ≤ g k ∧ g k ≤ (n : Int) - 1
      · by_cases hno : hasP g (g k) k
        · have HNO := Lib.hid hno
          clear HS hno
          generalize g k = x at *
          have hk9 : (k : Int) ≤ cap := by omega
          go_wp2_with (first | (go_at_call 47; refine (l01In_yes _ _ _ _ (by omega)).mono ?_; rintro e w' ⟨rfl, rfl⟩) | (go_at_call 51; refine (l02Has_yes _ k g x _ HT.out HNO.out).mono ?_; rintro e w' ⟨rfl, rfl⟩))
          go_ret
          exact ⟨rfl, rfl⟩
        · have HNO := Lib.hid hno
          have HN : Hid (∀ i, i < k + 1 → (0 ≤ g i ∧ g i ≤ (n : Int) - 1) ∧ ¬ hasP g (g i) i) := HS.out ⟨hx, hno⟩
          clear HS hno
          have hk9 : (k : Int) ≤ cap := by omega
          generalize hy : g k = x at c1 hx HNO
          clear hy
          go_wp2_with (first | (go_at_call 47; refine (l01In_yes _ _ _ _ (by omega)).mono ?_; rintro e w' ⟨rfl, rfl⟩) | (go_at_call 51; refine (l02Has_no _ k g x _ HT.out HNO.out).mono ?_; rintro e w' ⟨rfl, rfl⟩))
          go_round
          case rel => exact ⟨k + 1, by omega, by go_num, HN.out⟩
          case measure => simp [intOf]; omega
      · clear HS HT
        generalize g k = x at c1 hx
        go_wp2_with (go_at_call 47; refine (l01In_no _ _ _ _ hx).mono ?_; rintro e w' ⟨rfl, rfl⟩)
        go_ret
        exact ⟨rfl, rfl⟩
    · obtain rfl : k = n := by omega
      exact absurd hok.out HA.out
end Go.Proofs.Ytmghnhjfkecaaaa
