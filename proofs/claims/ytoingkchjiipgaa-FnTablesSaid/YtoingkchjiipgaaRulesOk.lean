/-
  Rule books: RulesOk, IsDecisive of the model and of the program.
-/
import Derived.Test.YtoingkchjiipgaaKeys
import Derived.Test.YtoingkchjiipgaaOrders
set_option linter.unusedVariables false
namespace Go.Proofs.Ytoingkchjiipgaa
open Go.RowKit

/-- the ladder n, g is one: from 1 to 8 keys, all valid and different -/
def ladP (n : Nat) (g : Nat → Int) : Prop := (1 ≤ (n : Int) ∧ (n : Int) ≤ 8) ∧ ∀ i, i < n → (1 ≤ g i ∧ g i ≤ 8) ∧ ¬ hasP g (g i) i
def rulesP (win draw loss : Int) (n : Nat) (g : Nat → Int) : Prop := (0 ≤ win ∧ win ≤ 10) ∧ (0 ≤ draw ∧ draw ≤ win) ∧ (0 ≤ loss ∧ loss ≤ draw) ∧ ladP n g
theorem rulesOk_yes (win draw loss : Int) (ag : Bool) (v : Value) (n : Nat) (g : Nat → Int) (w : World) (h : IntRow w v n g) (hp : rulesP win draw loss n g) :
    Calls Try.prog 58 #[.agg #[.int .i64 win, .int .i64 draw, .int .i64 loss, v, .bool ag]] w fun e w' => e = .returned (.bool true) ∧ Below w.heap.size w w' := by
  obtain ⟨a, cap, rfl, hn, hv⟩ : ∃ a cap, v = .slice a n cap ∧ n ≤ 9223372036854775807 ∧ (0 < n → ∃ b off, a = some ⟨b, off, none⟩ ∧ n ≤ cap ∧ ∀ i, i < n → w.cell? ⟨b, off + i, none⟩ = some (.int .i64 (g i))) := by
    rcases h with ⟨a, cap, rfl, rfl⟩ | ⟨b, off, cap, rfl, _, hn, hc, hcap⟩
    · exact ⟨_, _, rfl, by omega, fun h => absurd h (by omega)⟩
    · exact ⟨_, _, rfl, hn, fun _ => ⟨b, off, rfl, hcap, hc⟩⟩
  obtain ⟨h1, h2, h3, h4, hall⟩ := hp
  have HV := Lib.hid hv
  have HA := Lib.hid hall
  clear hv h hall
  go_enter Try.func58, Try.ntmps58
  go_wp2_with (go_at_call 59; refine (l01In_yes _ _ _ _ (by omega)).mono ?_; rintro e w' ⟨rfl, rfl⟩)
  go_loop [35] (fun i => ∃ k : Nat, k ≤ n ∧ i = .int .i64 k) (fun i => n - (intOf i).toNat)
  case atStart => exact ⟨0, Nat.zero_le _, rfl⟩
  case round =>
    obtain ⟨k, hk, rfl⟩ := hrel
    by_cases hlt : k < n
    · obtain ⟨b, off, rfl, hcap, hc⟩ := HV.out (by omega)
      have c1 := hc k hlt
      have hblt : b < w.heap.size := World.block_lt_of_cell? w _ c1
      obtain ⟨hx, hno⟩ := HA.out k hlt
      have HT := Lib.hid ((IntRow.take k hk hn hcap hc).below ((Below.refl _ w).alloc (Nat.le_refl _) (.cells #[.int .i64 win, .int .i64 draw, .int .i64 loss, .slice (some ⟨b, off, none⟩) n cap, .bool ag] 26)) (Nat.le_refl _))
      have HNO := Lib.hid hno
      clear hc HV HA hno
      generalize g k = x at *
      have hk9 : (k : Int) ≤ cap := by omega
      go_wp2_with (first | (go_at_call 59; refine (l01In_yes _ _ _ _ (by omega)).mono ?_; rintro e w' ⟨rfl, rfl⟩) | (go_at_call 77; refine (l02Has_no _ k g x _ HT.out HNO.out).mono ?_; rintro e w' ⟨rfl, rfl⟩))
      go_round
      case rel => exact ⟨k + 1, by omega, by go_num⟩
      case measure => simp [intOf]; omega
    · go_wp2
      go_ret
      exact ⟨rfl, (Below.refl _ _).alloc (Nat.le_refl _) _⟩
theorem rulesOk_no (win draw loss : Int) (ag : Bool) (v : Value) (n : Nat) (g : Nat → Int) (w : World) (h : IntRow w v n g) (hp : ¬ rulesP win draw loss n g) :
    Calls Try.prog 58 #[.agg #[.int .i64 win, .int .i64 draw, .int .i64 loss, v, .bool ag]] w fun e w' => e = .returned (.bool false) ∧ Below w.heap.size w w' := by
  obtain ⟨a, cap, rfl, hn, hv⟩ : ∃ a cap, v = .slice a n cap ∧ n ≤ 9223372036854775807 ∧ (0 < n → ∃ b off, a = some ⟨b, off, none⟩ ∧ n ≤ cap ∧ ∀ i, i < n → w.cell? ⟨b, off + i, none⟩ = some (.int .i64 (g i))) := by
    rcases h with ⟨a, cap, rfl, rfl⟩ | ⟨b, off, cap, rfl, _, hn, hc, hcap⟩
    · exact ⟨_, _, rfl, by omega, fun h => absurd h (by omega)⟩
    · exact ⟨_, _, rfl, hn, fun _ => ⟨b, off, rfl, hcap, hc⟩⟩
  have HV := Lib.hid hv
  have HP := Lib.hid hp
  clear hv h hp
  by_cases h1 : 0 ≤ win ∧ win ≤ 10
  case neg =>
    go_enter Try.func58, Try.ntmps58
    go_wp2_with (go_at_call 59; refine (l01In_no _ _ _ _ h1).mono ?_; rintro e w' ⟨rfl, rfl⟩)
    go_ret
    exact ⟨rfl, (Below.refl _ _).alloc (Nat.le_refl _) _⟩
  by_cases h2 : 0 ≤ draw ∧ draw ≤ win
  case neg =>
    go_enter Try.func58, Try.ntmps58
    go_wp2_with fail
    refine (l01In_yes _ _ _ _ h1).mono ?_
    rintro e w' ⟨rfl, rfl⟩
    go_wp2_with fail
    refine (l01In_no _ _ _ _ h2).mono ?_
    rintro e w' ⟨rfl, rfl⟩
    go_wp2
    go_ret
    exact ⟨rfl, (Below.refl _ _).alloc (Nat.le_refl _) _⟩
  by_cases h3 : 0 ≤ loss ∧ loss ≤ draw
  case neg =>
    go_enter Try.func58, Try.ntmps58
    go_wp2_with fail
    refine (l01In_yes _ _ _ _ h1).mono ?_
    rintro e w' ⟨rfl, rfl⟩
    go_wp2_with fail
    refine (l01In_yes _ _ _ _ h2).mono ?_
    rintro e w' ⟨rfl, rfl⟩
    go_wp2_with fail
    refine (l01In_no _ _ _ _ h3).mono ?_
    rintro e w' ⟨rfl, rfl⟩
    go_wp2
    go_ret
    exact ⟨rfl, (Below.refl _ _).alloc (Nat.le_refl _) _⟩
  by_cases h4 : 1 ≤ (n : Int) ∧ (n : Int) ≤ 8
  case neg =>
    go_enter Try.func58, Try.ntmps58
    go_wp2_with fail
    refine (l01In_yes _ _ _ _ h1).mono ?_
    rintro e w' ⟨rfl, rfl⟩
    go_wp2_with fail
    refine (l01In_yes _ _ _ _ h2).mono ?_
    rintro e w' ⟨rfl, rfl⟩
    go_wp2_with fail
    refine (l01In_yes _ _ _ _ h3).mono ?_
    rintro e w' ⟨rfl, rfl⟩
    go_wp2_with fail
    refine (l01In_no _ _ _ _ h4).mono ?_
    rintro e w' ⟨rfl, rfl⟩
    go_wp2
    go_ret
    exact ⟨rfl, (Below.refl _ _).alloc (Nat.le_refl _) _⟩
  have HA : Hid (¬ ∀ i, i < n → (1 ≤ g i ∧ g i ≤ 8) ∧ ¬ hasP g (g i) i) := fun h => HP.out ⟨h1, h2, h3, h4, h⟩
  clear HP
  go_enter Try.func58, Try.ntmps58
  go_wp2_with (go_at_call 59; refine (l01In_yes _ _ _ _ (by omega)).mono ?_; rintro e w' ⟨rfl, rfl⟩)
  go_loop [35] (fun i => ∃ k : Nat, k ≤ n ∧ i = .int .i64 k ∧ Hid (∀ i, i < k → (1 ≤ g i ∧ g i ≤ 8) ∧ ¬ hasP g (g i) i)) (fun i => n - (intOf i).toNat)
  case atStart => exact ⟨0, Nat.zero_le _, rfl, fun i hi => absurd hi (by omega)⟩
  case round =>
    obtain ⟨k, hk, rfl, hok⟩ := hrel
    by_cases hlt : k < n
    · obtain ⟨b, off, rfl, hcap, hc⟩ := HV.out (by omega)
      have c1 := hc k hlt
      have hblt : b < w.heap.size := World.block_lt_of_cell? w _ c1
      have HT := Lib.hid ((IntRow.take k hk hn hcap hc).below ((Below.refl _ w).alloc (Nat.le_refl _) (.cells #[.int .i64 win, .int .i64 draw, .int .i64 loss, .slice (some ⟨b, off, none⟩) n cap, .bool ag] 26)) (Nat.le_refl _))
      have HS : Hid (((1 ≤ g k ∧ g k ≤ 8) ∧ ¬ hasP g (g k) k) → ∀ i, i < k + 1 → (1 ≤ g i ∧ g i ≤ 8) ∧ ¬ hasP g (g i) i) := fun h i hi => by
        by_cases hik : i = k
        · subst hik; exact h
        · exact hok.out i (by omega)
      clear hc HV HA hok
      have hk9 : (k : Int) ≤ cap := by omega
      by_cases hx : 1 ≤ g k ∧ g k ≤ 8
      · by_cases hno : hasP g (g k) k
        · have HNO := Lib.hid hno
          clear HS hno
          generalize g k = x at *
          go_wp2_with (first | (go_at_call 59; refine (l01In_yes _ _ _ _ (by omega)).mono ?_; rintro e w' ⟨rfl, rfl⟩) | (go_at_call 77; refine (l02Has_yes _ k g x _ HT.out HNO.out).mono ?_; rintro e w' ⟨rfl, rfl⟩))
          go_ret
          exact ⟨rfl, (Below.refl _ _).alloc (Nat.le_refl _) _⟩
        · have HNO := Lib.hid hno
          have HN : Hid (∀ i, i < k + 1 → (1 ≤ g i ∧ g i ≤ 8) ∧ ¬ hasP g (g i) i) := HS.out ⟨hx, hno⟩
          clear HS hno
          generalize hy : g k = x at c1 hx HNO
          clear hy
          go_wp2_with (first | (go_at_call 59; refine (l01In_yes _ _ _ _ (by omega)).mono ?_; rintro e w' ⟨rfl, rfl⟩) | (go_at_call 77; refine (l02Has_no _ k g x _ HT.out HNO.out).mono ?_; rintro e w' ⟨rfl, rfl⟩))
          go_round
          case rel => exact ⟨k + 1, by omega, by go_num, HN.out⟩
          case measure => simp [intOf]; omega
      · clear HS HT
        generalize g k = x at c1 hx
        go_wp2_with (go_at_call 59; refine (l01In_no _ _ _ _ hx).mono ?_; rintro e w' ⟨rfl, rfl⟩)
        go_ret
        exact ⟨rfl, (Below.refl _ _).alloc (Nat.le_refl _) _⟩
    · obtain rfl : k = n := by omega
      exact absurd hok.out HA.out
theorem rulesOk_spec (win draw loss : Int) (ag R : Bool) (v : Value) (n : Nat) (g : Nat → Int) (w : World) (hR : R = true ↔ rulesP win draw loss n g) (h : IntRow w v n g) :
    Calls Try.prog 58 #[.agg #[.int .i64 win, .int .i64 draw, .int .i64 loss, v, .bool ag]] w fun e w' => e = .returned (.bool R) ∧ Below w.heap.size w w' := by
  cases R with
  | true => exact rulesOk_yes win draw loss ag v n g w h (hR.1 rfl)
  | false => exact rulesOk_no win draw loss ag v n g w h fun hp => by simpa using hR.2 hp
end Go.Proofs.Ytoingkchjiipgaa
