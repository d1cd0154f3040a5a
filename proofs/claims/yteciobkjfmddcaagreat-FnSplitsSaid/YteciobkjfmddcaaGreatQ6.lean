/-
  Packed: Keys, RulesOk, Tables4, Marks, Teams, Field.
-/
import Derived.Test.YteciobkjfmddcaaGreatProg
import Derived.WalkKit
import Derived.BigQuiet
import Derived.Deep.QuietTactic
import Derived.Lib.Hide
import Derived.Deep.RegionHeld3
import Derived.Outline
import Derived.Test.YteciobkjfmddcaaGreatQ1
import Derived.Test.YteciobkjfmddcaaGreatQ2
import Derived.Test.YteciobkjfmddcaaGreatQ5
set_option linter.unusedVariables false
namespace Go.Proofs.YteciobkjfmddcaaGreat
open Go.RowKit

theorem barr_ne {x y : ByteArray} (h : x ≠ y) : (x.toList == y.toList) = false := by
  rw [beq_eq_false_iff_ne, ne_eq, ByteArray.toList_eq, ByteArray.toList_eq]
  exact fun e => h (ByteArray.ext (Array.toList_inj.mp e))
def knm (k : Nat) : ByteArray := match k with
  | 1 => ⟨#[112, 111, 105, 110, 116, 115]⟩
  | 2 => ⟨#[100, 105, 102, 102, 101, 114, 101, 110, 99, 101]⟩
  | 3 => ⟨#[115, 99, 111, 114, 101, 100]⟩
  | 4 => ⟨#[119, 105, 110, 115]⟩
  | 5 => ⟨#[109, 117, 116, 117, 97, 108]⟩
  | 6 => ⟨#[109, 117, 116, 117, 97, 108, 100, 105, 102, 102, 101, 114, 101, 110, 99, 101]⟩
  | 7 => ⟨#[102, 97, 105, 114]⟩
  | 8 => ⟨#[115, 101, 101, 100]⟩
  | _ => ⟨#[]⟩
theorem keyNameI_yes (k : Nat) (w : World) (h1 : 1 ≤ k) (h8 : k ≤ 8) :
    Calls Tryz.prog 124 #[.int .i64 (k : Int)] w fun e w' => e = .returned (.string (knm k)) ∧ w = w' := by
  have : k = 1 ∨ k = 2 ∨ k = 3 ∨ k = 4 ∨ k = 5 ∨ k = 6 ∨ k = 7 ∨ k = 8 := by omega
  rcases this with rfl | rfl | rfl | rfl | rfl | rfl | rfl | rfl
  all_goals
    go_enter Tryz.func124, Tryz.ntmps124
    go_wp2
    go_ret
    exact ⟨rfl, rfl⟩
theorem keyNameI_no (k : Int) (w : World) (h : ¬ (1 ≤ k ∧ k ≤ 8)) :
    Calls Tryz.prog 124 #[.int .i64 k] w fun e w' => e = .returned (.string ⟨#[]⟩) ∧ w = w' := by
  have g1 : (k == 1) = false := beq_eq_false_iff_ne.2 (by omega)
  have g2 : (k == 2) = false := beq_eq_false_iff_ne.2 (by omega)
  have g3 : (k == 3) = false := beq_eq_false_iff_ne.2 (by omega)
  have g4 : (k == 4) = false := beq_eq_false_iff_ne.2 (by omega)
  have g5 : (k == 5) = false := beq_eq_false_iff_ne.2 (by omega)
  have g6 : (k == 6) = false := beq_eq_false_iff_ne.2 (by omega)
  have g7 : (k == 7) = false := beq_eq_false_iff_ne.2 (by omega)
  have g8 : (k == 8) = false := beq_eq_false_iff_ne.2 (by omega)
  clear h
  go_enter Tryz.func124, Tryz.ntmps124
  go_wp2
  go_ret
  exact ⟨rfl, rfl⟩
def knmI (k : Int) : ByteArray := if 1 ≤ k ∧ k ≤ 8 then knm k.toNat else ⟨#[]⟩
theorem keyName_impl (k : Int) (w : World) :
    Calls Tryz.prog 124 #[.int .i64 k] w fun e w' => e = .returned (.string (knmI k)) ∧ w = w' := by
  unfold knmI
  by_cases h : 1 ≤ k ∧ k ≤ 8
  · rw [if_pos h]
    obtain ⟨j, rfl⟩ : ∃ j : Nat, k = j := ⟨k.toNat, by omega⟩
    rw [Int.toNat_natCast]
    exact keyNameI_yes j w (by omega) (by omega)
  · rw [if_neg h]
    exact keyNameI_no k w h

def keyLead (s : ByteArray) : Nat → Nat → Nat
  | 0, _ => 0
  | r + 1, k => if knm k = s then k else keyLead s r (k + 1)
def mutualB (k : Int) : Bool := decide (k = 5 ∨ k = 6)
theorem isMutual_spec (k : Int) (w : World) : Calls Tryz.prog 94 #[.int .i64 k] w fun e w' => e = .returned (.bool (mutualB k)) ∧ w = w' := by
  generalize hr : mutualB k = R
  unfold mutualB at hr
  by_cases h5 : k = 5
  · subst h5
    obtain rfl : R = true := by simpa using hr.symm
    clear hr
    go_enter Tryz.func94, Tryz.ntmps94
    go_wp2
    go_ret
    exact ⟨rfl, rfl⟩
  by_cases h6 : k = 6
  · subst h6
    obtain rfl : R = true := by simpa using hr.symm
    clear hr h5
    go_enter Tryz.func94, Tryz.ntmps94
    go_wp2
    go_ret
    exact ⟨rfl, rfl⟩
  · obtain rfl : R = false := by simpa [h5, h6] using hr.symm
    have g5 : (k == 5) = false := beq_eq_false_iff_ne.2 h5
    have g6 : (k == 6) = false := beq_eq_false_iff_ne.2 h6
    clear hr h5 h6
    go_enter Tryz.func94, Tryz.ntmps94
    go_wp2
    go_ret
    exact ⟨rfl, rfl⟩
theorem isMutual_impl (k : Int) (w : World) : Calls Tryz.prog 86 #[.int .i64 k] w fun e w' => e = .returned (.bool (mutualB k)) ∧ w = w' := by
  generalize hr : mutualB k = R
  unfold mutualB at hr
  by_cases h5 : k = 5
  · subst h5
    obtain rfl : R = true := by simpa using hr.symm
    clear hr
    go_enter Tryz.func86, Tryz.ntmps86
    go_wp2
    go_ret
    exact ⟨rfl, rfl⟩
  by_cases h6 : k = 6
  · subst h6
    obtain rfl : R = true := by simpa using hr.symm
    clear hr h5
    go_enter Tryz.func86, Tryz.ntmps86
    go_wp2
    go_ret
    exact ⟨rfl, rfl⟩
  · obtain rfl : R = false := by simpa [h5, h6] using hr.symm
    have g5 : (k == 5) = false := beq_eq_false_iff_ne.2 h5
    have g6 : (k == 6) = false := beq_eq_false_iff_ne.2 h6
    clear hr h5 h6
    go_enter Tryz.func86, Tryz.ntmps86
    go_wp2
    go_ret
    exact ⟨rfl, rfl⟩
end Go.Proofs.YteciobkjfmddcaaGreat
set_option linter.unusedVariables false
namespace Go.Proofs.YteciobkjfmddcaaGreat
open Go.RowKit

def ladP (n : Nat) (g : Nat → Int) : Prop := (1 ≤ (n : Int) ∧ (n : Int) ≤ 8) ∧ ∀ i, i < n → (1 ≤ g i ∧ g i ≤ 8) ∧ ¬ hasP g (g i) i
def rulesP (win draw loss : Int) (n : Nat) (g : Nat → Int) : Prop := (0 ≤ win ∧ win ≤ 10) ∧ (0 ≤ draw ∧ draw ≤ win) ∧ (0 ≤ loss ∧ loss ≤ draw) ∧ ladP n g
theorem rulesOk_yes (win draw loss : Int) (ag : Bool) (v : Value) (n : Nat) (g : Nat → Int) (w : World) (h : IntRow w v n g) (hp : rulesP win draw loss n g) :
    Calls Tryz.prog 89 #[.agg #[.int .i64 win, .int .i64 draw, .int .i64 loss, v, .bool ag]] w fun e w' => e = .returned (.bool true) ∧ Below w.heap.size w w' := by
  obtain ⟨a, cap, rfl, hn, hv⟩ : ∃ a cap, v = .slice a n cap ∧ n ≤ 9223372036854775807 ∧ (0 < n → ∃ b off, a = some ⟨b, off, none⟩ ∧ n ≤ cap ∧ ∀ i, i < n → w.cell? ⟨b, off + i, none⟩ = some (.int .i64 (g i))) := by
    rcases h with ⟨a, cap, rfl, rfl⟩ | ⟨b, off, cap, rfl, _, hn, hc, hcap⟩
    · exact ⟨_, _, rfl, by omega, fun h => absurd h (by omega)⟩
    · exact ⟨_, _, rfl, hn, fun _ => ⟨b, off, rfl, hcap, hc⟩⟩
  obtain ⟨h1, h2, h3, h4, hall⟩ := hp
  have HV := Lib.hid hv
  have HA := Lib.hid hall
  clear hv h hall
  go_enter Tryz.func89, Tryz.ntmps89
  go_wp2_with (go_at_call 45; refine (l01In_yes _ _ _ _ (by omega)).mono ?_; rintro e w' ⟨rfl, rfl⟩)
  go_loop [35] (fun i => ∃ k : Nat, k ≤ n ∧ i = .int .i64 k) (fun i => n - (RowKit.intOf i).toNat)
  case atStart => exact ⟨0, Nat.zero_le _, rfl⟩
  case round =>
    obtain ⟨k, hk, rfl⟩ := hrel
    by_cases hlt : k < n
    · obtain ⟨b, off, rfl, hcap, hc⟩ := HV.out (by omega)
      have c1 := hc k hlt
      have hblt : b < w.heap.size := World.block_lt_of_cell? w _ c1
      obtain ⟨hx, hno⟩ := HA.out k hlt
      have HT := Lib.hid ((IntRow.take k hk hn hcap hc).below ((Below.refl _ w).alloc (Nat.le_refl _) (.cells #[.int .i64 win, .int .i64 draw, .int .i64 loss, .slice (some ⟨b, off, none⟩) n cap, .bool ag] 26)) (Nat.le_refl _))
      have HNO := Lib.hid hno
      clear hc HV HA hno
      generalize g k = x at *
      have hk9 : (k : Int) ≤ cap := by omega
      go_wp2_with (first | (go_at_call 45; refine (l01In_yes _ _ _ _ (by omega)).mono ?_; rintro e w' ⟨rfl, rfl⟩) | (go_at_call 92; refine (l02Has_no _ k g x _ HT.out HNO.out).mono ?_; rintro e w' ⟨rfl, rfl⟩))
      go_round
      case rel => exact ⟨k + 1, by omega, by go_num⟩
      case measure => simp [RowKit.intOf]; omega
    · go_wp2
      go_ret
      exact ⟨rfl, (Below.refl _ _).alloc (Nat.le_refl _) _⟩
theorem rulesOk_no (win draw loss : Int) (ag : Bool) (v : Value) (n : Nat) (g : Nat → Int) (w : World) (h : IntRow w v n g) (hp : ¬ rulesP win draw loss n g) :
    Calls Tryz.prog 89 #[.agg #[.int .i64 win, .int .i64 draw, .int .i64 loss, v, .bool ag]] w fun e w' => e = .returned (.bool false) ∧ Below w.heap.size w w' := by
  obtain ⟨a, cap, rfl, hn, hv⟩ : ∃ a cap, v = .slice a n cap ∧ n ≤ 9223372036854775807 ∧ (0 < n → ∃ b off, a = some ⟨b, off, none⟩ ∧ n ≤ cap ∧ ∀ i, i < n → w.cell? ⟨b, off + i, none⟩ = some (.int .i64 (g i))) := by
    rcases h with ⟨a, cap, rfl, rfl⟩ | ⟨b, off, cap, rfl, _, hn, hc, hcap⟩
    · exact ⟨_, _, rfl, by omega, fun h => absurd h (by omega)⟩
    · exact ⟨_, _, rfl, hn, fun _ => ⟨b, off, rfl, hcap, hc⟩⟩
  have HV := Lib.hid hv
  have HP := Lib.hid hp
  clear hv h hp
  by_cases h1 : 0 ≤ win ∧ win ≤ 10
  case neg =>
    go_enter Tryz.func89, Tryz.ntmps89
    go_wp2_with (go_at_call 45; refine (l01In_no _ _ _ _ h1).mono ?_; rintro e w' ⟨rfl, rfl⟩)
    go_ret
    exact ⟨rfl, (Below.refl _ _).alloc (Nat.le_refl _) _⟩
  by_cases h2 : 0 ≤ draw ∧ draw ≤ win
  case neg =>
    go_enter Tryz.func89, Tryz.ntmps89
    go_wp2_with fail
    refine (l01In_yes _ _ _ _ h1).mono ?_
    rintro e w' ⟨rfl, rfl⟩
    go_wp2_with fail
    refine (l01In_no _ _ _ _ h2).mono ?_
    rintro e w' ⟨rfl, rfl⟩
    go_wp2
    go_ret
    exact ⟨rfl, (Below.refl _ _).alloc (Nat.le_refl _) _⟩
  by_cases h3 : 0 ≤ loss ∧ loss ≤ draw
  case neg =>
    go_enter Tryz.func89, Tryz.ntmps89
    go_wp2_with fail
    refine (l01In_yes _ _ _ _ h1).mono ?_
    rintro e w' ⟨rfl, rfl⟩
    go_wp2_with fail
    refine (l01In_yes _ _ _ _ h2).mono ?_
    rintro e w' ⟨rfl, rfl⟩
    go_wp2_with fail
    refine (l01In_no _ _ _ _ h3).mono ?_
    rintro e w' ⟨rfl, rfl⟩
    go_wp2
    go_ret
    exact ⟨rfl, (Below.refl _ _).alloc (Nat.le_refl _) _⟩
  by_cases h4 : 1 ≤ (n : Int) ∧ (n : Int) ≤ 8
  case neg =>
    go_enter Tryz.func89, Tryz.ntmps89
    go_wp2_with fail
    refine (l01In_yes _ _ _ _ h1).mono ?_
    rintro e w' ⟨rfl, rfl⟩
    go_wp2_with fail
    refine (l01In_yes _ _ _ _ h2).mono ?_
    rintro e w' ⟨rfl, rfl⟩
    go_wp2_with fail
    refine (l01In_yes _ _ _ _ h3).mono ?_
    rintro e w' ⟨rfl, rfl⟩
    go_wp2_with fail
    refine (l01In_no _ _ _ _ h4).mono ?_
    rintro e w' ⟨rfl, rfl⟩
    go_wp2
    go_ret
    exact ⟨rfl, (Below.refl _ _).alloc (Nat.le_refl _) _⟩
  have HA : Hid (¬ ∀ i, i < n → (1 ≤ g i ∧ g i ≤ 8) ∧ ¬ hasP g (g i) i) := fun h => HP.out ⟨h1, h2, h3, h4, h⟩
  clear HP
  go_enter Tryz.func89, Tryz.ntmps89
  go_wp2_with (go_at_call 45; refine (l01In_yes _ _ _ _ (by omega)).mono ?_; rintro e w' ⟨rfl, rfl⟩)
  go_loop [35] (fun i => ∃ k : Nat, k ≤ n ∧ i = .int .i64 k ∧ Hid (∀ i, i < k → (1 ≤ g i ∧ g i ≤ 8) ∧ ¬ hasP g (g i) i)) (fun i => n - (RowKit.intOf i).toNat)
  case atStart => exact ⟨0, Nat.zero_le _, rfl, fun i hi => absurd hi (by omega)⟩
  case round =>
    obtain ⟨k, hk, rfl, hok⟩ := hrel
    by_cases hlt : k < n
    · obtain ⟨b, off, rfl, hcap, hc⟩ := HV.out (by omega)
      have c1 := hc k hlt
      have hblt : b < w.heap.size := World.block_lt_of_cell? w _ c1
      have HT := Lib.hid ((IntRow.take k hk hn hcap hc).below ((Below.refl _ w).alloc (Nat.le_refl _) (.cells #[.int .i64 win, .int .i64 draw, .int .i64 loss, .slice (some ⟨b, off, none⟩) n cap, .bool ag] 26)) (Nat.le_refl _))
      have HS : Hid (((1 ≤ g k ∧ g k ≤ 8) ∧ ¬ hasP g (g k) k) → ∀ i, i < k + 1 → (1 ≤ g i ∧ g i ≤ 8) ∧ ¬ hasP g (g i) i) := fun h i hi => by
        by_cases hik : i = k
        · subst hik; exact h
        · exact hok.out i (by omega)
      clear hc HV HA hok
      have hk9 : (k : Int) ≤ cap := by omega
      by_cases hx : 1 ≤ g k ∧ g k ≤ 8
      · by_cases hno : hasP g (g k) k
        · have HNO := Lib.hid hno
          clear HS hno
          generalize g k = x at *
          go_wp2_with (first | (go_at_call 45; refine (l01In_yes _ _ _ _ (by omega)).mono ?_; rintro e w' ⟨rfl, rfl⟩) | (go_at_call 92; refine (l02Has_yes _ k g x _ HT.out HNO.out).mono ?_; rintro e w' ⟨rfl, rfl⟩))
          go_ret
          exact ⟨rfl, (Below.refl _ _).alloc (Nat.le_refl _) _⟩
        · have HNO := Lib.hid hno
          have HN : Hid (∀ i, i < k + 1 → (1 ≤ g i ∧ g i ≤ 8) ∧ ¬ hasP g (g i) i) := HS.out ⟨hx, hno⟩
          clear HS hno
          generalize hy : g k = x at c1 hx HNO
          clear hy
          go_wp2_with (first | (go_at_call 45; refine (l01In_yes _ _ _ _ (by omega)).mono ?_; rintro e w' ⟨rfl, rfl⟩) | (go_at_call 92; refine (l02Has_no _ k g x _ HT.out HNO.out).mono ?_; rintro e w' ⟨rfl, rfl⟩))
          go_round
          case rel => exact ⟨k + 1, by omega, by go_num, HN.out⟩
          case measure => simp [RowKit.intOf]; omega
      · clear HS HT
        generalize g k = x at c1 hx
        go_wp2_with (go_at_call 45; refine (l01In_no _ _ _ _ hx).mono ?_; rintro e w' ⟨rfl, rfl⟩)
        go_ret
        exact ⟨rfl, (Below.refl _ _).alloc (Nat.le_refl _) _⟩
    · obtain rfl : k = n := by omega
      exact absurd hok.out HA.out
theorem rulesOk_spec (win draw loss : Int) (ag R : Bool) (v : Value) (n : Nat) (g : Nat → Int) (w : World) (hR : R = true ↔ rulesP win draw loss n g) (h : IntRow w v n g) :
    Calls Tryz.prog 89 #[.agg #[.int .i64 win, .int .i64 draw, .int .i64 loss, v, .bool ag]] w fun e w' => e = .returned (.bool R) ∧ Below w.heap.size w w' := by
  cases R with
  | true => exact rulesOk_yes win draw loss ag v n g w h (hR.1 rfl)
  | false => exact rulesOk_no win draw loss ag v n g w h fun hp => by simpa using hR.2 hp
end Go.Proofs.YteciobkjfmddcaaGreat
set_option linter.unusedVariables false
namespace Go.Proofs.YteciobkjfmddcaaGreat
open Go.RowKit

def hasB (g : Nat → Int) (n : Nat) (x : Int) : Bool := (List.range n).any fun j => g j == x
theorem hasB_iff {g : Nat → Int} {n : Nat} {x : Int} : hasB g n x = true ↔ hasP g x n := by
  unfold hasB hasP
  simp
theorem l02Has_any (v : Value) (n : Nat) (g : Nat → Int) (x : Int) (w : World) (h : IntRow w v n g) :
    Calls Tryz.prog 92 #[v, .int .i64 x] w fun e w' => e = .returned (.bool (hasB g n x)) ∧ w = w' := by
  cases hb : hasB g n x with
  | true => exact l02Has_yes v n g x w h (hasB_iff.1 hb)
  | false => exact l02Has_no v n g x w h fun hp => by rw [hasB_iff.2 hp] at hb; cases hb
def selG (all : Bool) (gg : Nat → Int) (ng : Nat) (x : GameD) : Bool := all || (hasB gg ng x.home && hasB gg ng x.away)
def tabR (win draw loss : Int) (sel : GameD → Bool) (g : Nat → GameD) : Nat → Nat → RowD
  | 0 => fun _ => zeroR
  | k + 1 => if sel (g k) = true then addG win draw loss (tabR win draw loss sel g k) (g k) else tabR win draw loss sel g k
theorem made_rows (n : Nat) : RecCells 7 n (madeCells (Value.agg #[.int .i64 0, .int .i64 0, .int .i64 0, .int .i64 0, .int .i64 0, .int .i64 0, .int .i64 0]).cells (n * 7)).toList (fun _ => zeroR.cells) := by
  intro i hi j u hu
  have hj : j < 7 := by have := (List.getElem?_eq_some_iff.1 hu).1; simpa [RowD.cells] using this
  have hu0 : u = .int .i64 0 := by
    have : j = 0 ∨ j = 1 ∨ j = 2 ∨ j = 3 ∨ j = 4 ∨ j = 5 ∨ j = 6 := by omega
    rcases this with rfl | rfl | rfl | rfl | rfl | rfl | rfl <;> (simp [RowD.cells, zeroR] at hu; exact hu.symm)
  subst hu0
  have hlt : i * 7 + j < n * 7 := by omega
  have hz : ∀ t, t < 7 → (#[Value.int .i64 0, .int .i64 0, .int .i64 0, .int .i64 0, .int .i64 0, .int .i64 0, .int .i64 0])[t]! = Value.int .i64 0 := by
    intro t ht
    have : t = 0 ∨ t = 1 ∨ t = 2 ∨ t = 3 ∨ t = 4 ∨ t = 5 ∨ t = 6 := by omega
    rcases this with rfl | rfl | rfl | rfl | rfl | rfl | rfl <;> rfl
  have hc : (Value.agg #[.int .i64 0, .int .i64 0, .int .i64 0, .int .i64 0, .int .i64 0, .int .i64 0, .int .i64 0]).cells = #[Value.int .i64 0, .int .i64 0, .int .i64 0, .int .i64 0, .int .i64 0, .int .i64 0, .int .i64 0] := rfl
  rw [hc, Array.getElem?_toList]
  unfold madeCells
  rw [Array.getElem?_map, Array.getElem?_range, if_pos hlt]
  simp only [Option.map_some]
  exact congrArg some (hz _ (Nat.mod_lt _ (by decide)))

theorem boolEx (p : Prop) : ∃ R : Bool, R = true ↔ p := by
  by_cases h : p
  · exact ⟨true, fun _ => h, fun _ => rfl⟩
  · exact ⟨false, (fun e => by cases e), fun e => absurd e h⟩

set_option maxHeartbeats 2000000 in
theorem l06Among_spec (win draw loss : Int) (lad : Value) (agn : Bool) (n m : Nat) (v : Value) (g : Nat → GameD) (gv : Value) (ng : Nat) (gg : Nat → Int) (all : Bool) (w : World) (hlad : ∃ a l c, lad = .slice a l c) (hn : n ≤ 8)
    (hv : GameRow w v m g) (hgv : IntRow w gv ng gg) (hsea : ∀ i, i < m → gameP n (g i)) :
    Calls Tryz.prog 121 #[.agg #[.int .i64 win, .int .i64 draw, .int .i64 loss, lad, .bool agn], .int .i64 n, v, gv, .bool all] w fun e w' => ∃ vr xs, e = .returned vr ∧ w'.ownsRow w.heap.size 148 7 vr n xs ∧
      RecCells 7 n xs (fun i => (tabR win draw loss (selG all gg ng) g m i).cells) ∧ Below w.heap.size w w' := by
  obtain ⟨la, ll, lc, rfl⟩ := hlad
  obtain ⟨i0, hi, hz0, hz1, hz2⟩ := info_parts Tryz.infoRow
  obtain ⟨aa, cap, rfl, hm, hc⟩ := hv.form
  have HV := Lib.hid hc
  have HG := Lib.hid hgv
  have HS := Lib.hid hsea
  clear hc hv hgv hsea
  have hu0 : Hid (BoxN (w.alloc (.cells #[.int .i64 win, .int .i64 draw, .int .i64 loss, .slice la ll lc, .bool agn] 26)) w.heap.size [.int .i64 win, .int .i64 draw, .int .i64 loss, .slice la ll lc, .bool agn]) := BoxN.made (Below.refl _ _) rfl
  have hb0 : Hid (Below w.heap.size w (w.alloc (.cells #[.int .i64 win, .int .i64 draw, .int .i64 loss, .slice la ll lc, .bool agn] 26))) := (Below.refl _ _).alloc (Nat.le_refl _) _
  go_enter Tryz.func121, Tryz.ntmps121
  go_wp2_with (at_make; refine wpList_make_full _ rfl _ _ 66 rfl w.heap.size 148 i0 (.agg #[.int .i64 0, .int .i64 0, .int .i64 0, .int .i64 0, .int .i64 0, .int .i64 0, .int .i64 0]) 7 Tryz.underlying66 hi hz0 hz1 .i64 .i64 n n n rfl rfl rfl rfl (by rw [hz2]; omega) (by unfold maxLen; omega) (by simp) ?_; intro w1 hown hg1)
  have hg1' : Below (w.heap.size + 1) (w.alloc (.cells #[.int .i64 win, .int .i64 draw, .int .i64 loss, .slice la ll lc, .bool agn] 26)) w1 := (Below.refl _ _).grown hg1 (by simp) (fun k hk => by cases hk)
  have HU := Lib.hid (BoxN.below hu0.out (hg1'.mono (by simp)))
  have HB := Lib.hid (hb0.out.trans (hg1'.mono (by simp)))
  have HO := Lib.hid hown
  have HC := Lib.hid (made_rows n)
  have es : (w.alloc (.cells #[.int .i64 win, .int .i64 draw, .int .i64 loss, .slice la ll lc, .bool agn] 26)).heap.size = w.heap.size + 1 := by simp
  rw [es] at HO
  clear hg1 hg1' hu0 hb0 hown es
  go_wp2
  go_loopw [18] (fun i wr => ∃ (k : Nat) (xs : List Value), k ≤ m ∧ i = .int .i64 k ∧ Hid (wr.ownsRow w.heap.size 148 7 (.slice (some ⟨w.heap.size + 1, 0, none⟩) n n) n xs) ∧ Hid (RecCells 7 n xs (fun i => (tabR win draw loss (selG all gg ng) g k i).cells)) ∧
      Hid (BoxN wr w.heap.size [.int .i64 win, .int .i64 draw, .int .i64 loss, .slice la ll lc, .bool agn]) ∧ Hid (Below w.heap.size w wr)) (fun i _ => m - (RowKit.intOf i).toNat)
  case atStart => exact ⟨0, _, Nat.zero_le _, rfl, HO, HC, HU, HB⟩
  case round =>
    clear HO HC HU HB
    obtain ⟨k, xs, hk, rfl, HO, HC, HU, HB⟩ := hrel
    by_cases hlt : k < m
    · obtain ⟨b, off, rfl, hcap, hc⟩ := HV.out (by omega)
      have hq := (hc k hlt).belowB HB.out (hc k hlt).1
      have hgp := HS.out k hlt
      have HY : Hid (selG all gg ng (g k) = true → tabR win draw loss (selG all gg ng) g (k + 1) = addG win draw loss (tabR win draw loss (selG all gg ng) g k) (g k)) := fun h => if_pos h
      have HN : Hid (selG all gg ng (g k) = false → tabR win draw loss (selG all gg ng) g (k + 1) = tabR win draw loss (selG all gg ng) g k) := fun h => if_neg (by rw [h]; simp)
      have HSel : Hid (selG all gg ng (g k) = (all || (hasB gg ng (g k).home && hasB gg ng (g k).away))) := rfl
      rw [HSel.out] at HY HN
      generalize g k = x at *
      obtain ⟨x0, x1, x2, x3, x4⟩ := x
      obtain ⟨⟨n1, n2⟩, ⟨q1, q2⟩, ⟨q3, q4⟩, _⟩ := hgp
      simp only at q1 q2 q3 q4 HY HN
      obtain ⟨p, rfl⟩ : ∃ p : Nat, x0 = p := ⟨x0.toNat, by omega⟩
      obtain ⟨q, rfl⟩ : ∃ q : Nat, x1 = q := ⟨x1.toNat, by omega⟩
      have hpn : p < n := by omega
      have hqn : q < n := by omega
      obtain ⟨c0, c1, c2, c3, c4⟩ := game_cells hq
      simp only at c0 c1 c2 c3 c4
      have hsz := HB.out.size
      have hb1 := (Below.refl wr.heap.size wr).alloc (Nat.le_refl _) (.cells #[.int .i64 (p : Int), .int .i64 (q : Int), .int .i64 x2, .int .i64 x3, .int .i64 x4] 127)
      have HB1 := Lib.hid (HB.out.trans (hb1.mono hsz))
      have HO1 := Lib.hid (owns_below HO.out hb1 (Nat.le_refl _))
      have HU1 := Lib.hid (BoxN.below HU.out hb1)
      have HG1 := Lib.hid (HG.out.below HB1.out (Nat.le_refl _))
      have C := Lib.hid (fun t => l02Has_any gv ng gg t _ HG1.out)
      have hul := HU.out.1
      have v0 := HU.out.2 0 _ rfl
      have v1 := HU.out.2 1 _ rfl
      have v2 := HU.out.2 2 _ rfl
      have v3 := HU.out.2 3 _ rfl
      have v4 := HU.out.2 4 _ rfl
      clear hc HV hq HSel hb1 HO HU HB q1 q2 q3 q4 n1 n2
      cases all with
      | true =>
        simp only [Bool.true_or] at HY HN
        have HT := Lib.hid (HY.out (by first | rfl | trivial))
        clear HY HN
        go_wp2_with fail
        refine (l06Add_spec win draw loss (.slice la ll lc) agn p q x2 x3 x4 w.heap.size (w.heap.size + 1) n n xs _ _ ⟨_, _, _, rfl⟩ hpn hqn HO1.out HC.out).mono ?_
        rintro e w4 ⟨rfl, xs', ho4, hc4, t4⟩
        have HO4 := Lib.hid ho4
        have HC4 := Lib.hid hc4
        have HU4 := Lib.hid (BoxN.touch HU1.out t4 (.inl (Nat.lt_succ_self _)))
        have HB4 := Lib.hid (HB1.out.trans (t4.below (Nat.le_succ _) HB1.out.size))
        clear ho4 hc4 t4 HO1 HC HU1 HB1 C c0 c1 c2 c3 c4
        go_wp2
        go_roundw
        case rel => exact ⟨k + 1, xs', by omega, by go_num, HO4.out, by rw [HT.out]; exact HC4.out, HU4.out, HB4.out⟩
        case measure => simp [RowKit.intOf]; omega
      | false =>
        simp only [Bool.false_or] at HY HN
        generalize hbp : hasB gg ng (p : Int) = bp at *
        generalize hbq : hasB gg ng (q : Int) = bq at *
        have C1 := Lib.hid (C.out (p : Int))
        have C2 := Lib.hid (C.out (q : Int))
        rw [hbp] at C1
        rw [hbq] at C2
        clear hbp hbq
        cases bp with
        | false =>
          simp only [Bool.false_and] at HY HN
          have HT := Lib.hid (HN.out (by first | rfl | trivial))
          clear HY HN
          go_wp2_with fail
          refine C1.out.mono ?_
          rintro e w3 ⟨rfl, rfl⟩
          clear C1 C2 C
          go_wp2
          go_roundw
          case rel => exact ⟨k + 1, xs, by omega, by go_num, HO1.out, by rw [HT.out]; exact HC.out, HU1.out, HB1.out⟩
          case measure => simp [RowKit.intOf]; omega
        | true =>
          simp only [Bool.true_and] at HY HN
          cases bq with
          | false =>
            have HT := Lib.hid (HN.out (by first | rfl | trivial))
            clear HY HN
            go_wp2_with fail
            refine C1.out.mono ?_
            rintro e w3 ⟨rfl, rfl⟩
            go_wp2_with fail
            refine C2.out.mono ?_
            rintro e w3 ⟨rfl, rfl⟩
            clear C1 C2 C
            go_wp2
            go_roundw
            case rel => exact ⟨k + 1, xs, by omega, by go_num, HO1.out, by rw [HT.out]; exact HC.out, HU1.out, HB1.out⟩
            case measure => simp [RowKit.intOf]; omega
          | true =>
            have HT := Lib.hid (HY.out (by first | rfl | trivial))
            clear HY HN
            go_wp2_with fail
            refine C1.out.mono ?_
            rintro e w3 ⟨rfl, rfl⟩
            go_wp2_with fail
            refine C2.out.mono ?_
            rintro e w3 ⟨rfl, rfl⟩
            go_wp2_with fail
            refine (l06Add_spec win draw loss (.slice la ll lc) agn p q x2 x3 x4 w.heap.size (w.heap.size + 1) n n xs _ _ ⟨_, _, _, rfl⟩ hpn hqn HO1.out HC.out).mono ?_
            rintro e w4 ⟨rfl, xs', ho4, hc4, t4⟩
            have HO4 := Lib.hid ho4
            have HC4 := Lib.hid hc4
            have HU4 := Lib.hid (BoxN.touch HU1.out t4 (.inl (Nat.lt_succ_self _)))
            have HB4 := Lib.hid (HB1.out.trans (t4.below (Nat.le_succ _) HB1.out.size))
            clear ho4 hc4 t4 HO1 HC HU1 HB1 C c0 c1 c2 c3 c4
            go_wp2
            go_roundw
            case rel => exact ⟨k + 1, xs', by omega, by go_num, HO4.out, by rw [HT.out]; exact HC4.out, HU4.out, HB4.out⟩
            case measure => simp [RowKit.intOf]; omega
    · obtain rfl : k = m := by omega
      go_wp2
      go_ret
      exact ⟨_, xs, rfl, HO.out, HC.out, HB.out⟩
def tabP (win draw loss : Int) (nl : Nat) (gl : Nat → Int) (n : Int) (m : Nat) (g : Nat → GameD) : Prop := rulesP win draw loss nl gl ∧ (2 ≤ n ∧ n ≤ 8) ∧ seasonP n m g
theorem made_none {w w' : World} {k : Nat} {T : TypeId} {g : Nat → List Value} (hb : Below w.heap.size w w') : RecMade k T w 0 g (.returned (.slice none 0 0)) w' :=
  ⟨_, rfl, .inl ⟨_, _, rfl, rfl⟩, ⟨_, World.ownsRow_nil _ _ _ _⟩, hb⟩

end Go.Proofs.YteciobkjfmddcaaGreat
set_option linter.unusedVariables false
namespace Go.Proofs.YteciobkjfmddcaaGreat
open Go.RowKit

def mkd : Nat → Nat → List UInt8 → List UInt8
  | 0, _, out => out
  | f + 1, k, out => if 0 < k then mkd f (k / 10) ((48 + UInt8.ofNat (k % 10)) :: out) else out
def mkT (k : Nat) : ByteArray := ⟨(109 :: mkd k k []).toArray⟩
theorem mkd_step (f k : Nat) (out : List UInt8) (h : 0 < k) : mkd (f + 1) k out = mkd f (k / 10) ((48 + UInt8.ofNat (k % 10)) :: out) := by
  simp [mkd, h]
theorem mkd_end (f : Nat) (out : List UInt8) : mkd f 0 out = out := by cases f <;> simp [mkd]

theorem one_byte_string {P : Program} (w : World) (src dst e : TypeId) (hs : P.underlying src = some (.slice e)) (he : P.underlying e = some (.int .u8)) (hd : P.underlying dst = some .string) (v : Int) :
    (convert src dst (.slice (some ⟨w.heap.size, 0, none⟩) 1 1)).run P (w.alloc (.cells #[.int .u8 v] e)) = .ok (.string ⟨[UInt8.ofNat v.toNat].toArray⟩) (w.alloc (.cells #[.int .u8 v] e)) := by
  have h := run_convert_bytes_arg (P := P) (w.alloc (.cells #[.int .u8 v] e)) src e hs he w.heap.size 0 1 1 [v] rfl (fun i hi => by
    obtain rfl : i = 0 := by omega
    simp) dst hd
  rw [h]
  rfl
theorem cat_lists (x y : List UInt8) : (ByteArray.mk x.toArray ++ ByteArray.mk y.toArray) = ByteArray.mk (x ++ y).toArray := ByteArray.mk_append_mk x y

theorem markText_any (k : Nat) (w : World) (h0 : 0 < k) (hk : k ≤ 1000000000000) :
    Calls Tryz.prog 100 #[.int .i64 (k : Int)] w fun e w' => e = .returned (.string (mkT k)) ∧ Below w.heap.size w w' := by
  have g0 : decide ((k : Int) ≤ 0) = false := decide_eq_false (by omega)
  go_enter Tryz.func100, Tryz.ntmps100
  go_wp2
  go_loopw [0, 3] (fun kv out wr => ∃ (j f : Nat) (l : List UInt8), kv = .int .i64 (j : Int) ∧ out = .string ⟨l.toArray⟩ ∧ j ≤ f ∧ l.length + j ≤ k ∧ Hid (mkd f j l = mkd k k []) ∧ Below w.heap.size w wr) (fun kv _ _ => (RowKit.intOf kv).toNat)
  case atStart => exact ⟨k, k, [], rfl, rfl, Nat.le_refl _, by simp, rfl, Below.refl _ _⟩
  case round =>
    obtain ⟨j, f, l, rfl, rfl, hj, hl, hm, hb⟩ := hrel
    by_cases hp : 0 < j
    · have hcv := one_byte_string (P := Tryz.prog) wr 22 9 5 Tryz.underlying22 Tryz.underlying5 Tryz.underlying9 (48 + (j : Int) % 10)
      have hz : l.toArray.size ≤ 1000000000000 := by simp; omega
      go_wp2
      go_roundw
      case rel =>
        obtain ⟨f', rfl⟩ : ∃ f', f = f' + 1 := ⟨f - 1, by omega⟩
        exact ⟨j / 10, f', (48 + UInt8.ofNat (j % 10)) :: l, by go_num, congrArg Value.string (cat_lists [48 + UInt8.ofNat (j % 10)] l), by omega, by simp; omega,
          (by rw [← mkd_step f' j l hp]; exact hm), hb.alloc hb.size _⟩
      case measure => simp [RowKit.intOf]; omega
    · obtain rfl : j = 0 := by omega
      have hz : l.toArray.size ≤ 1000000000000 := by simp; omega
      have he : mkT k = ⟨(109 :: l).toArray⟩ := by
        unfold mkT
        rw [← hm.out, mkd_end]
      have He := Lib.hid he
      clear he hm
      go_wp2
      go_ret
      exact ⟨by rw [He.out]; exact congrArg (fun x => Ending.returned (Value.string x)) (cat_lists [109] l), hb⟩

def StrRow (w : World) (v : Value) (n : Nat) (g : Nat → ByteArray) : Prop :=
  (∃ a cap, v = .slice a 0 cap ∧ n = 0) ∨ ∃ b off cap, v = .slice (some ⟨b, off, none⟩) n cap ∧ 0 < n ∧ n ≤ 9223372036854775807 ∧ (∀ i, i < n → w.cell? ⟨b, off + i, none⟩ = some (.string (g i))) ∧ n ≤ cap
theorem StrRow.drewN {w : World} {v : Value} {n q : Nat} {g : Nat → ByteArray} (h : StrRow w v n g) : StrRow (w.drewN q) v n g := by
  rcases h with h | ⟨b, off, cap, h1, h0, h2, h3, h4⟩
  · exact .inl h
  · exact .inr ⟨b, off, cap, h1, h0, h2, fun i hi => by rw [World.cell?_drewN]; exact h3 i hi, h4⟩

theorem StrRow.of_owns {w : World} {base : Nat} {e : TypeId} {v : Value} {n : Nat} {xs : List Value} {g : Nat → ByteArray} (h : w.ownsRow base e 1 v n xs) (hn : n ≤ 9223372036854775807)
    (hg : ∀ i, i < n → xs[i]? = some (.string (g i))) : StrRow w v n g := by
  by_cases h0 : n = 0
  · subst h0
    rcases h.2 with ⟨rfl, _⟩ | ⟨b, cap, cur, rfl, _⟩
    · exact .inl ⟨_, _, rfl, rfl⟩
    · exact .inl ⟨_, _, rfl, rfl⟩
  · rcases h.2 with ⟨_, hz⟩ | ⟨b, cap, cur, rfl, _, _, hcap, _⟩
    · exact absurd hz h0
    · refine .inr ⟨b, 0, cap, rfl, by omega, hn, fun i hi => ?_, hcap⟩
      rw [Nat.zero_add, h.cellAt i (by omega)]
      exact hg i hi

def StrMarked (base : Nat) (w : World) (v : Value) (n k : Nat) (e : Ending) (w' : World) : Prop :=
  e = .returned (.int .i64 ((k : Int) + n)) ∧ (∃ ys, w'.ownsRow base 9 1 v n ys ∧ ∀ i, i < n → ys[i]? = some (.string (mkT (k + i)))) ∧ Below base w w'

theorem StrRow.below {w w' : World} {B : Nat} {v : Value} {n : Nat} {g : Nat → ByteArray} (h : StrRow w v n g) (hb : Below B w w') (hB : w.heap.size ≤ B) : StrRow w' v n g := by
  rcases h with h | ⟨b, off, cap, h1, h0, h2, h3, h4⟩
  · exact .inl h
  · exact .inr ⟨b, off, cap, h1, h0, h2, fun i hi => (hb.cell (p := ⟨b, off + i, none⟩) (Nat.lt_of_lt_of_le (World.block_lt_of_cell? w _ (h3 i hi)) hB)).trans (h3 i hi), h4⟩
def getS (L : List ByteArray) (i : Nat) : ByteArray := L.getD i ByteArray.empty
theorem StrRow.of_list {w : World} {base : Nat} {e : TypeId} {v : Value} {L : List ByteArray} (h : w.ownsRow base e 1 v L.length (L.map Value.string)) (hn : L.length ≤ 9223372036854775807) :
    StrRow w v L.length (getS L) := StrRow.of_owns h hn fun i hi => by simp [getS, hi]
end Go.Proofs.YteciobkjfmddcaaGreat
set_option linter.unusedVariables false
namespace Go.Proofs.YteciobkjfmddcaaGreat
open Go.RowKit

structure TeamD where
  nm : ByteArray
  club : Int
  seed : Int
def TeamD.val (t : TeamD) : Value := .agg #[.string t.nm, .int .i64 t.club, .int .i64 t.seed]
def TeamD.cells (t : TeamD) : List Value := [.string t.nm, .int .i64 t.club, .int .i64 t.seed]
def TeamRow (w : World) (v : Value) (n : Nat) (g : Nat → TeamD) : Prop :=
  (∃ a cap, v = .slice a 0 cap ∧ n = 0) ∨ ∃ b off cap, v = .slice (some ⟨b, off, none⟩) n cap ∧ 0 < n ∧ n ≤ 9223372036854775807 ∧
    (∀ i, i < n → w.cell? ⟨b, off + i * 3, none⟩ = some (.string (g i).nm) ∧ w.cell? ⟨b, off + i * 3 + 1, none⟩ = some (.int .i64 (g i).club) ∧ w.cell? ⟨b, off + i * 3 + 2, none⟩ = some (.int .i64 (g i).seed)) ∧ n ≤ cap
theorem TeamRow.form {w : World} {v : Value} {n : Nat} {g : Nat → TeamD} (h : TeamRow w v n g) :
    ∃ a cap, v = .slice a n cap ∧ n ≤ 9223372036854775807 ∧ (0 < n → ∃ b off, a = some ⟨b, off, none⟩ ∧
      ∀ i, i < n → w.cell? ⟨b, off + i * 3, none⟩ = some (.string (g i).nm) ∧ w.cell? ⟨b, off + i * 3 + 1, none⟩ = some (.int .i64 (g i).club) ∧ w.cell? ⟨b, off + i * 3 + 2, none⟩ = some (.int .i64 (g i).seed)) := by
  rcases h with ⟨a, cap, rfl, rfl⟩ | ⟨b, off, cap, rfl, _, hn, hc, _⟩
  · exact ⟨_, _, rfl, by omega, fun h => absurd h (by omega)⟩
  · exact ⟨_, _, rfl, hn, fun _ => ⟨b, off, rfl, hc⟩⟩

def SzTeamPost (t : TeamD) (left : Int) (w : World) (e : Ending) (w' : World) : Prop :=
  (∃ r : Int, e = .returned (.int .i64 r) ∧ ((left < t.nm.size ∧ r < 0) ∨ (0 ≤ r ∧ t.nm.size + r = left))) ∧ Below w.heap.size w w'
theorem szTeam_any (t : TeamD) (left : Int) (w : World) (hs : t.nm.size ≤ 9223372036854775807) (hl0 : 0 ≤ left) (hl : left ≤ 1048576) :
    Calls Tryz.prog 87 #[.agg #[.string t.nm, .int .i64 t.club, .int .i64 t.seed], .int .i64 left] w (SzTeamPost t left w) := by
  obtain ⟨nm, club, seed⟩ := t
  simp only at hs ⊢
  by_cases hb : left < nm.size
  · have g0 : decide (left - (nm.size : Int) < 0) = true := decide_eq_true (by omega)
    go_enter Tryz.func87, Tryz.ntmps87
    go_wp2
    go_ret
    exact ⟨⟨_, rfl, .inl ⟨hb, by decide⟩⟩, (Below.refl _ _).alloc (Nat.le_refl _) _⟩
  · have g0 : decide (left - (nm.size : Int) < 0) = false := decide_eq_false (by omega)
    go_enter Tryz.func87, Tryz.ntmps87
    go_wp2
    go_ret
    exact ⟨⟨_, rfl, .inr ⟨by omega, by show (nm.size : Int) + _ = _; omega⟩⟩, (Below.refl _ _).alloc (Nat.le_refl _) _⟩

def totT (g : Nat → TeamD) : Nat → Nat
  | 0 => 0
  | k + 1 => totT g k + (g k).nm.size
def SzTeamsPost (g : Nat → TeamD) (n left : Nat) (w : World) (e : Ending) (w' : World) : Prop :=
  (∃ r : Int, e = .returned (.int .i64 r) ∧ (r < 0 ∨ (0 ≤ r ∧ n + totT g n + r = left))) ∧ Below w.heap.size w w'
theorem szTeamS_any (v : Value) (n left : Nat) (g : Nat → TeamD) (w : World) (h : TeamRow w v n g) (hg : ∀ i, (g i).nm.size ≤ 9223372036854775807) (hl : left ≤ 1048576) :
    Calls Tryz.prog 40 #[v, .int .i64 (left : Int)] w (SzTeamsPost g n left w) := by
  obtain ⟨a, cap, rfl, hn, hv⟩ := h.form
  have HV := Lib.hid hv
  have HG := Lib.hid hg
  clear hv hg h
  by_cases hbig : left < n
  · have g0 : decide ((left : Int) - (n : Int) < 0) = true := decide_eq_true (by omega)
    go_enter Tryz.func40, Tryz.ntmps40
    go_wp2
    go_ret
    exact ⟨⟨_, rfl, .inl (by decide)⟩, Below.refl _ _⟩
  have g0 : decide ((left : Int) - (n : Int) < 0) = false := decide_eq_false (by omega)
  go_enter Tryz.func40, Tryz.ntmps40
  go_wp2
  go_loopw [1, 5] (fun l i wr => ∃ (j T : Nat), j ≤ n ∧ i = .int .i64 j ∧ l = .int .i64 ((left : Int) - n - T) ∧ Hid (T = totT g j) ∧ n + T ≤ left ∧ Below w.heap.size w wr) (fun _ i _ => n - (RowKit.intOf i).toNat)
  case atStart => exact ⟨0, 0, Nat.zero_le _, rfl, by go_num, rfl, by omega, Below.refl _ _⟩
  case round =>
    obtain ⟨j, T, hj, rfl, rfl, hT, hTl, hb⟩ := hrel
    by_cases hlt : j < n
    · obtain ⟨b, off, rfl, hc⟩ := HV.out (by omega)
      obtain ⟨k0, k1, k2⟩ := hc j hlt
      have hblt : b < w.heap.size := World.block_lt_of_cell? w _ k0
      have c0 := (hb.cell (p := ⟨b, off + j * 3, none⟩) hblt).trans k0
      have c1 := (hb.cell (p := ⟨b, off + j * 3 + 1, none⟩) hblt).trans k1
      have c2 := (hb.cell (p := ⟨b, off + j * 3 + 2, none⟩) hblt).trans k2
      have hgj := HG.out j
      clear hc HV k0 k1 k2
      have hstep : Hid (T + (g j).nm.size = totT g (j + 1)) := by show _ = _; rw [hT.out]; rfl
      generalize g j = x at *
      go_wp2_with fail
      refine (szTeam_any x _ _ hgj (by omega) (by omega)).mono ?_
      rintro e w2 ⟨⟨r, rfl, hr⟩, b2⟩
      have hb2 := hb.trans (b2.mono hb.size)
      clear hb b2 c0 c1 c2
      rcases hr with ⟨_, hr⟩ | ⟨hr, hre⟩
      · have g1 : decide (r < 0) = true := decide_eq_true hr
        go_wp2
        go_ret
        exact ⟨⟨_, rfl, .inl (by decide)⟩, hb2⟩
      · have g1 : decide (r < 0) = false := decide_eq_false (by omega)
        obtain rfl : r = (left : Int) - n - (T + x.nm.size : Nat) := by omega
        clear hre
        go_wp2
        go_roundw
        case rel => exact ⟨j + 1, T + x.nm.size, by omega, by go_num, by go_num, hstep, by omega, hb2⟩
        case measure => simp [RowKit.intOf]; omega
    · obtain rfl : j = n := by omega
      go_wp2
      go_ret
      exact ⟨⟨_, rfl, .inr ⟨by omega, by rw [← hT.out]; omega⟩⟩, hb⟩

theorem toTeam_any (t : TeamD) (w : World) :
    Calls Tryz.prog 95 #[.agg #[.string t.nm, .int .i64 t.club, .int .i64 t.seed]] w fun e w' => e = .returned (.agg #[.string t.nm, .int .i64 t.club, .int .i64 t.seed]) ∧ Below w.heap.size w w' := by
  obtain ⟨nm, club, seed⟩ := t
  simp only
  go_enter Tryz.func95, Tryz.ntmps95
  go_wp2
  exact bodyPost_ret (v := .agg #[.string nm, .int .i64 club, .int .i64 seed]) (by simp [results, Tryz.results95, go_sem]) rfl ⟨rfl, (((Below.refl _ _).alloc (Nat.le_refl _) _).alloc (by simp) _).alloc (by simp; omega) _⟩

theorem eqTeam_same (t : TeamD) (w : World) :
    Calls Tryz.prog 98 #[.agg #[.string t.nm, .int .i64 t.club, .int .i64 t.seed], .agg #[.string t.nm, .int .i64 t.club, .int .i64 t.seed]] w fun e w' => e = .returned (.bool true) ∧ Below w.heap.size w w' := by
  obtain ⟨nm, club, seed⟩ := t
  simp only
  go_enter Tryz.func98, Tryz.ntmps98
  go_wp2
  go_ret
  exact ⟨rfl, ((Below.refl _ _).alloc (Nat.le_refl _) _).alloc (by simp) _⟩

theorem cells_below {w wr : World} {b off j : Nat} {t : TeamD} (hb : Below w.heap.size w wr) (h : w.cell? ⟨b, off + j * 3, none⟩ = some (.string t.nm) ∧ w.cell? ⟨b, off + j * 3 + 1, none⟩ = some (.int .i64 t.club) ∧ w.cell? ⟨b, off + j * 3 + 2, none⟩ = some (.int .i64 t.seed)) :
    wr.cell? ⟨b, off + j * 3, none⟩ = some (.string t.nm) ∧ wr.cell? ⟨b, off + j * 3 + 1, none⟩ = some (.int .i64 t.club) ∧ wr.cell? ⟨b, off + j * 3 + 2, none⟩ = some (.int .i64 t.seed) := by
  have hblt : b < w.heap.size := World.block_lt_of_cell? w _ h.1
  exact ⟨(hb.cell (p := ⟨b, off + j * 3, none⟩) hblt).trans h.1, (hb.cell (p := ⟨b, off + j * 3 + 1, none⟩) hblt).trans h.2.1, (hb.cell (p := ⟨b, off + j * 3 + 2, none⟩) hblt).trans h.2.2⟩

theorem eqTeamS_same (v1 v2 : Value) (n : Nat) (g : Nat → TeamD) (w : World) (h1 : TeamRow w v1 n g) (h2 : TeamRow w v2 n g) :
    Calls Tryz.prog 53 #[v1, v2] w fun e w' => e = .returned (.bool true) ∧ Below w.heap.size w w' := by
  obtain ⟨a, cap, rfl, hn, hv⟩ := h1.form
  obtain ⟨a', cap', rfl, _, hv'⟩ := h2.form
  have HV := Lib.hid hv
  have HV' := Lib.hid hv'
  clear hv hv' h1 h2
  go_enter Tryz.func53, Tryz.ntmps53
  go_wp2
  go_loopw [5] (fun i wr => ∃ k : Nat, k ≤ n ∧ i = .int .i64 k ∧ Below w.heap.size w wr) (fun i _ => n - (RowKit.intOf i).toNat)
  case atStart => exact ⟨0, Nat.zero_le _, rfl, Below.refl _ _⟩
  case round =>
    obtain ⟨k, hk, rfl, hb⟩ := hrel
    by_cases hlt : k < n
    · obtain ⟨b, off, rfl, hc⟩ := HV.out (by omega)
      obtain ⟨b', off', rfl, hc'⟩ := HV'.out (by omega)
      obtain ⟨c0, c1, c2⟩ := cells_below hb (hc k hlt)
      obtain ⟨d0, d1, d2⟩ := cells_below hb (hc' k hlt)
      have hblt : b < w.heap.size := World.block_lt_of_cell? w _ (hc k hlt).1
      have hblt' : b' < w.heap.size := World.block_lt_of_cell? w _ (hc' k hlt).1
      have HB := Lib.hid hb
      have hsz := hb.size
      clear hc hc' HV HV' hb
      generalize g k = x at *
      go_wp2
      go_region_held3 (fun w' => w'.cell? ⟨b, off + k * 3, none⟩ = some (.string x.nm) ∧ w'.cell? ⟨b, off + k * 3 + 1, none⟩ = some (.int .i64 x.club) ∧ w'.cell? ⟨b, off + k * 3 + 2, none⟩ = some (.int .i64 x.seed) ∧
          w'.cell? ⟨b', off' + k * 3, none⟩ = some (.string x.nm) ∧ w'.cell? ⟨b', off' + k * 3 + 1, none⟩ = some (.int .i64 x.club) ∧ w'.cell? ⟨b', off' + k * 3 + 2, none⟩ = some (.int .i64 x.seed) ∧ Hid (Below w.heap.size w w'))
        (first
          | exact ⟨c0, c1, c2, d0, d1, d2, HB.out.drew⟩
          | exact ⟨(Below.cell hb1 (p := ⟨b, off + k * 3, none⟩) (Nat.lt_of_lt_of_le hblt hsz)).trans c0, (Below.cell hb1 (p := ⟨b, off + k * 3 + 1, none⟩) (Nat.lt_of_lt_of_le hblt hsz)).trans c1, (Below.cell hb1 (p := ⟨b, off + k * 3 + 2, none⟩) (Nat.lt_of_lt_of_le hblt hsz)).trans c2,
              (Below.cell hb1 (p := ⟨b', off' + k * 3, none⟩) (Nat.lt_of_lt_of_le hblt' hsz)).trans d0, (Below.cell hb1 (p := ⟨b', off' + k * 3 + 1, none⟩) (Nat.lt_of_lt_of_le hblt' hsz)).trans d1, (Below.cell hb1 (p := ⟨b', off' + k * 3 + 2, none⟩) (Nat.lt_of_lt_of_le hblt' hsz)).trans d2,
              HB.out.drew.trans (hb1.mono hsz)⟩)
        (first | (go_at_call 98; refine (eqTeam_same x _).mono ?_; rintro e w1 ⟨rfl, hb1⟩))
      have HB1 : Hid (Below w.heap.size w w1) := by
        rename_i hh
        exact hh.2.2.2.2.2.2
      clear hb1 HB c0 c1 c2 d0 d1 d2
      go_wp2
      go_roundw
      case rel => exact ⟨k + 1, by omega, by go_num, HB1.out⟩
      case measure => simp [RowKit.intOf]; omega
    · go_wp2
      go_ret
      exact ⟨rfl, hb⟩

theorem Tryz.infoTeam : (Tryz.prog.info? 124).map (fun i => (i.zero, i.size, i.bytes)) = some (some (.agg #[.string ByteArray.empty, .int .i64 0, .int .i64 0]), 3, 32) := by kernel_rfl
def TeamsMade (w : World) (n : Nat) (g : Nat → TeamD) (e : Ending) (w' : World) : Prop :=
  ∃ v, e = .returned v ∧ TeamRow w' v n g ∧ (∃ xs, w'.ownsRow w.heap.size 124 3 v n xs) ∧ Below w.heap.size w w'
theorem TeamRow.of_owns {w : World} {base : Nat} {e : TypeId} {v : Value} {n : Nat} {xs : List Value} {g : Nat → TeamD} (h : w.ownsRow base e 3 v n xs) (hn : n ≤ 9223372036854775807)
    (hg : ∀ t, t < n → xs[t * 3]? = some (.string (g t).nm) ∧ xs[t * 3 + 1]? = some (.int .i64 (g t).club) ∧ xs[t * 3 + 2]? = some (.int .i64 (g t).seed)) : TeamRow w v n g := by
  by_cases h0 : n = 0
  · subst h0
    rcases h.2 with ⟨rfl, _⟩ | ⟨b, cap, cur, rfl, _⟩
    · exact .inl ⟨_, _, rfl, rfl⟩
    · exact .inl ⟨_, _, rfl, rfl⟩
  · rcases h.2 with ⟨_, hz⟩ | ⟨b, cap, cur, rfl, _, _, hcap, _⟩
    · exact absurd hz h0
    · refine .inr ⟨b, 0, cap, rfl, by omega, hn, fun i hi => ?_, hcap⟩
      obtain ⟨h1, h2, h3⟩ := hg i hi
      simp only [Nat.zero_add]
      exact ⟨by rw [h.cellAt _ (by omega)]; exact h1, by rw [h.cellAt _ (by omega)]; exact h2, by rw [h.cellAt _ (by omega)]; exact h3⟩
theorem toTeamS_any (v : Value) (n : Nat) (g : Nat → TeamD) (w : World) (h : TeamRow w v n g) (hn : n ≤ 1048576) :
    Calls Tryz.prog 48 #[v] w (TeamsMade w n g) := by
  obtain ⟨i0, hi, hz0, hz1, hz2⟩ := info_parts Tryz.infoTeam
  obtain ⟨a, cap, rfl, _, hv⟩ := h.form
  have HV := Lib.hid hv
  clear hv h
  go_enter Tryz.func48, Tryz.ntmps48
  go_wp2_with (at_make; refine wpList_make_full _ rfl _ _ 23 rfl w.heap.size 124 i0 (.agg #[.string ByteArray.empty, .int .i64 0, .int .i64 0]) 3 Tryz.underlying23 hi hz0 hz1 .i64 .i64 n n n rfl rfl rfl rfl (by rw [hz2]; omega) (by unfold maxLen; omega) (Nat.le_refl _) ?_; intro w1 hown hg1)
  have hb1 : Below w.heap.size w w1 := (Below.refl _ _).grown hg1 (Nat.le_refl _) (fun k hk => by cases hk)
  clear hg1
  go_loopw [4] (fun i wr => ∃ (j : Nat) (ys : List Value), j ≤ n ∧ i = .int .i64 j ∧ wr.ownsRow w.heap.size 124 3 (.slice (some ⟨w.heap.size, 0, none⟩) n n) n ys ∧
      Hid (∀ t, t < j → ys[t * 3]? = some (.string (g t).nm) ∧ ys[t * 3 + 1]? = some (.int .i64 (g t).club) ∧ ys[t * 3 + 2]? = some (.int .i64 (g t).seed)) ∧ Below w.heap.size w wr)
    (fun i _ => n - (RowKit.intOf i).toNat)
  case atStart => exact ⟨0, _, Nat.zero_le _, rfl, hown, fun t ht => absurd ht (by omega), hb1⟩
  case round =>
    obtain ⟨j, ys, hj, rfl, hown', hys, hb⟩ := hrel
    clear hown hb1
    by_cases hlt : j < n
    · obtain ⟨b, off, rfl, hc⟩ := HV.out (by omega)
      obtain ⟨c0, c1, c2⟩ := cells_below hb (hc j hlt)
      generalize hx : g j = x at *
      have Hx := Lib.hid hx
      have hlen := hown'.1
      have HL := Lib.hid hlen
      have hsz := hb.size
      clear hc HV hx hlen
      go_wp2_with (go_at_call 95; refine (toTeam_any x _).mono ?_; rintro e w2 ⟨rfl, b2⟩; have hown2 := owns_below hown' b2 (Nat.le_refl _); obtain ⟨⟨u0, e0⟩, ⟨u1, e1⟩, ⟨u2, e2⟩⟩ := owns_cells3 hown2 j hlt; have f0 := hown2.frozenAt (j * 3); have f1 := hown2.frozenAt (j * 3 + 1); have f2 := hown2.frozenAt (j * 3 + 2))
      go_roundw
      case rel =>
        have hb2 := (hb.trans (b2.mono hsz))
        refine ⟨j + 1, _, by omega, by go_num, owns_set3 hown2 j _ _ _, fun t ht => ?_, ((hb2.setCell (Nat.le_refl _) _).setCell (Nat.le_refl _) _).setCell (Nat.le_refl _) _⟩
        by_cases htj : t = j
        · subst htj
          rw [Hx.out]
          exact set3_at HL.out hlt _ _ _
        · obtain ⟨h1, h2, h3⟩ := hys.out t (by omega)
          exact ⟨(set3_other htj _ _ _ 0 (by omega)).trans h1, (set3_other htj _ _ _ 1 (by omega)).trans h2, (set3_other htj _ _ _ 2 (by omega)).trans h3⟩
      case measure => simp [RowKit.intOf]; omega
    · obtain rfl : j = n := by omega
      go_wp2
      go_ret
      exact ⟨_, rfl, TeamRow.of_owns hown' (by omega) hys.out, ⟨_, hown'⟩, hb⟩

theorem markTeamS_any (v : Value) (n k base : Nat) (xs : List Value) (w : World) (hown : w.ownsRow base 124 3 v n xs) (hbase : base ≤ w.heap.size) (h0 : 0 < k) (hk : k + 3 * n ≤ 1000000000000) :
    Calls Tryz.prog 56 #[v, .int .i64 (k : Int)] w fun e w' => e = .returned (.int .i64 ((k : Int) + 3 * n)) ∧ Below base w w' := by
  obtain ⟨a, cap, rfl, hv⟩ : ∃ a cap, v = .slice a n cap ∧ (0 < n → ∃ g, a = some ⟨g, 0, none⟩ ∧ base ≤ g) := by
    rcases hown.2 with ⟨rfl, rfl⟩ | ⟨g, cap, cur, rfl, hg, _⟩
    · exact ⟨_, _, rfl, fun h => absurd h (by omega)⟩
    · exact ⟨_, _, rfl, fun _ => ⟨g, rfl, hg⟩⟩
  have HV := Lib.hid hv
  clear hv
  go_enter Tryz.func56, Tryz.ntmps56
  go_wp2
  go_loopw [1, 5] (fun kv i wr => ∃ (j : Nat) (ys : List Value), j ≤ n ∧ i = .int .i64 j ∧ kv = .int .i64 ((k : Int) + 3 * j) ∧ wr.ownsRow base 124 3 (.slice a n cap) n ys ∧ Below base w wr)
    (fun _ i _ => n - (RowKit.intOf i).toNat)
  case atStart => exact ⟨0, xs, Nat.zero_le _, rfl, by go_num, hown, Below.refl _ _⟩
  case round =>
    obtain ⟨j, ys, hj, rfl, rfl, hown', hb⟩ := hrel
    clear hown
    by_cases hlt : j < n
    · obtain ⟨g, rfl, hg⟩ := HV.out (by omega)
      have hsz := hb.size
      clear HV
      have CM := Lib.hid (fun w => markText_any (k + 3 * j) w (by omega) (by omega))
      go_wp2_with (go_at_call 100; rw [show ((k : Int) + 3 * (j : Int)) = ((k + 3 * j : Nat) : Int) by omega]; refine (CM.out _).mono ?_; rintro e w1 ⟨rfl, hb1⟩; have hown1 := owns_below hown' hb1 (Nat.le_refl _); obtain ⟨⟨u0, e0⟩, ⟨u1, e1⟩, ⟨u2, e2⟩⟩ := owns_cells3 hown1 j hlt; have f0 := hown1.frozenAt (j * 3); have f1 := hown1.frozenAt (j * 3 + 1); have f2 := hown1.frozenAt (j * 3 + 2))
      go_roundw
      case rel =>
        have hb2 := hb.trans (hb1.mono (Nat.le_trans hbase hsz))
        exact ⟨j + 1, _, by omega, by go_num, by go_num, owns_set3 hown1 j _ _ _, ((hb2.setCell hg _).setCell hg _).setCell hg _⟩
      case measure => simp [RowKit.intOf]; omega
    · obtain rfl : j = n := by omega
      go_wp2
      go_ret
      exact ⟨rfl, hb⟩
theorem markTeamS_one (v : Value) (n base : Nat) (xs : List Value) (w : World) (hown : w.ownsRow base 124 3 v n xs) (hbase : base ≤ w.heap.size) (hk : n ≤ 1048576) :
    Calls Tryz.prog 56 #[v, .int .i64 1] w fun e w' => e = .returned (.int .i64 ((1 : Int) + 3 * n)) ∧ Below base w w' :=
  markTeamS_any v n 1 base xs w hown hbase (by omega) (by omega)
theorem tgrown_trans {a b c : World} {row : Option Nat} (h : a.grownBy b row) (k : b.grownBy c row) : a.grownBy c row :=
  ⟨k.os.trans h.os, k.tape.trans h.tape, k.output.trans h.output, Nat.le_trans h.size k.size, fun i hi hne => (k.block i (Nat.lt_of_lt_of_le hi h.size) hne).trans (h.block i hi hne)⟩
theorem tgrown_any {a b : World} (h : a.grownBy b none) (row : Option Nat) : a.grownBy b row := ⟨h.os, h.tape, h.output, h.size, fun i hi _ => h.block i hi (by simp)⟩
theorem tgrown_refl (a : World) (row : Option Nat) : a.grownBy a row := ⟨rfl, rfl, rfl, Nat.le_refl _, fun _ _ _ => rfl⟩
theorem markTeamS_grown (v : Value) (n base : Nat) (xs : List Value) (w : World) (hown : w.ownsRow base 124 3 v n xs) (hbase : base ≤ w.heap.size) (hk : n ≤ 1048576) :
    Calls Tryz.prog 56 #[v, .int .i64 1] w fun e w' => e = .returned (.int .i64 ((1 : Int) + 3 * n)) ∧ Below base w w' ∧ w.grownBy w' v.ownBlock := by
  obtain ⟨a, cap, rfl, hv⟩ : ∃ a cap, v = .slice a n cap ∧ (0 < n → ∃ g, a = some ⟨g, 0, none⟩ ∧ base ≤ g) := by
    rcases hown.2 with ⟨rfl, rfl⟩ | ⟨g, cap, cur, rfl, hg, _⟩
    · exact ⟨_, _, rfl, fun h => absurd h (by omega)⟩
    · exact ⟨_, _, rfl, fun _ => ⟨g, rfl, hg⟩⟩
  have HV := Lib.hid hv
  clear hv
  go_enter Tryz.func56, Tryz.ntmps56
  go_wp2
  go_loopw [1, 5] (fun kv i wr => ∃ (j : Nat) (ys : List Value), j ≤ n ∧ i = .int .i64 j ∧ kv = .int .i64 ((1 : Int) + 3 * j) ∧ wr.ownsRow base 124 3 (.slice a n cap) n ys ∧ Below base w wr ∧ w.grownBy wr (Value.slice a n cap).ownBlock)
    (fun _ i _ => n - (RowKit.intOf i).toNat)
  case atStart => exact ⟨0, xs, Nat.zero_le _, rfl, by go_num, hown, Below.refl _ _, tgrown_refl _ _⟩
  case round =>
    obtain ⟨j, ys, hj, rfl, rfl, hown', hb, hgr⟩ := hrel
    clear hown
    by_cases hlt : j < n
    · obtain ⟨g, rfl, hg⟩ := HV.out (by omega)
      have hsz := hb.size
      clear HV
      have CM := Lib.hid (fun w => markText_any (1 + 3 * j) w (by omega) (by omega))
      go_wp2_with (go_at_call 100; rw [show ((1 : Int) + 3 * (j : Int)) = ((1 + 3 * j : Nat) : Int) by omega]; refine (CM.out _).mono ?_; rintro e w1 ⟨rfl, hb1⟩; have hown1 := owns_below hown' hb1 (Nat.le_refl _); obtain ⟨⟨u0, e0⟩, ⟨u1, e1⟩, ⟨u2, e2⟩⟩ := owns_cells3 hown1 j hlt; have f0 := hown1.frozenAt (j * 3); have f1 := hown1.frozenAt (j * 3 + 1); have f2 := hown1.frozenAt (j * 3 + 2))
      go_roundw
      case rel =>
        have hb2 := hb.trans (hb1.mono (Nat.le_trans hbase hsz))
        have g1 := tgrown_trans hgr (tgrown_any (below_grown hb1 (Nat.le_refl _)) (some g))
        exact ⟨j + 1, _, by omega, by go_num, by go_num, owns_set3 hown1 j _ _ _, ((hb2.setCell hg _).setCell hg _).setCell hg _,
          tgrown_trans g1 (tgrown_trans (hown1.stored (j * 3) _).2 (tgrown_trans ((hown1.stored (j * 3) _).1.stored (j * 3 + 1) _).2 (((hown1.stored (j * 3) _).1.stored (j * 3 + 1) _).1.stored (j * 3 + 2) _).2))⟩
      case measure => simp [RowKit.intOf]; omega
    · obtain rfl : j = n := by omega
      go_wp2
      go_ret
      exact ⟨rfl, hb, hgr⟩
end Go.Proofs.YteciobkjfmddcaaGreat
set_option linter.unusedVariables false
namespace Go.Proofs.YteciobkjfmddcaaGreat
open Go.RowKit

theorem bytes_ne {x y : ByteArray} (h : x ≠ y) : (x.toList == y.toList) = false := by
  rw [beq_eq_false_iff_ne, ne_eq, ByteArray.toList_eq, ByteArray.toList_eq]
  exact fun e => h (ByteArray.ext (Array.toList_inj.mp e))
def teamP (t : TeamD) : Prop := nameB t.nm = true ∧ (0 ≤ t.club ∧ t.club ≤ 5) ∧ (1 ≤ t.seed ∧ t.seed ≤ 8)
theorem teamOk_yes (t : TeamD) (w : World) (hs : t.nm.size ≤ maxLen) (hp : teamP t) :
    Calls Tryz.prog 118 #[.agg #[.string t.nm, .int .i64 t.club, .int .i64 t.seed]] w fun e w' => e = .returned (.bool true) ∧ Below w.heap.size w w' := by
  obtain ⟨nm, club, seed⟩ := t
  obtain ⟨h1, h2, h3⟩ := hp
  simp only at h1 h2 h3 hs ⊢
  have H1 := Lib.hid h1
  clear h1
  go_enter Tryz.func118, Tryz.ntmps118
  go_wp2_with (first
    | (go_at_call 136; refine (isName_spec _ _ hs).mono ?_; rintro e w' ⟨rfl, rfl⟩; rw [H1.out])
    | (go_at_call 45; refine (l01In_yes _ _ _ _ (by omega)).mono ?_; rintro e w' ⟨rfl, rfl⟩))
  go_ret
  exact ⟨rfl, (Below.refl _ _).alloc (Nat.le_refl _) _⟩
theorem teamOk_no (t : TeamD) (w : World) (hs : t.nm.size ≤ maxLen) (hp : ¬ teamP t) :
    Calls Tryz.prog 118 #[.agg #[.string t.nm, .int .i64 t.club, .int .i64 t.seed]] w fun e w' => e = .returned (.bool false) ∧ Below w.heap.size w w' := by
  obtain ⟨nm, club, seed⟩ := t
  unfold teamP at hp
  simp only at hp hs ⊢
  by_cases h1 : nameB nm = true
  · have H1 := Lib.hid h1
    by_cases h2 : 0 ≤ club ∧ club ≤ 5
    · have h3 : ¬ (1 ≤ seed ∧ seed ≤ 8) := fun h3 => hp ⟨h1, h2, h3⟩
      clear h1 hp
      go_enter Tryz.func118, Tryz.ntmps118
      go_wp2_with (first
        | (go_at_call 136; refine (isName_spec _ _ hs).mono ?_; rintro e w' ⟨rfl, rfl⟩; rw [H1.out])
        | (go_at_call 45; refine (l01In_yes _ _ _ _ (by omega)).mono ?_; rintro e w' ⟨rfl, rfl⟩)
        | (go_at_call 45; refine (l01In_no _ _ _ _ (by omega)).mono ?_; rintro e w' ⟨rfl, rfl⟩))
      go_ret
      exact ⟨rfl, (Below.refl _ _).alloc (Nat.le_refl _) _⟩
    · clear h1 hp
      go_enter Tryz.func118, Tryz.ntmps118
      go_wp2_with (first
        | (go_at_call 136; refine (isName_spec _ _ hs).mono ?_; rintro e w' ⟨rfl, rfl⟩; rw [H1.out])
        | (go_at_call 45; refine (l01In_no _ _ _ _ (by omega)).mono ?_; rintro e w' ⟨rfl, rfl⟩))
      go_ret
      exact ⟨rfl, (Below.refl _ _).alloc (Nat.le_refl _) _⟩
  · have h1' : nameB nm = false := by simpa using h1
    have H1 := Lib.hid h1'
    clear h1 h1' hp
    go_enter Tryz.func118, Tryz.ntmps118
    go_wp2_with (go_at_call 136; refine (isName_spec _ _ hs).mono ?_; rintro e w' ⟨rfl, rfl⟩; rw [H1.out])
    go_ret
    exact ⟨rfl, (Below.refl _ _).alloc (Nat.le_refl _) _⟩

def namedI (g : Nat → TeamD) (x : ByteArray) : Nat → Nat → Int
  | 0, _ => -1
  | r + 1, k => if (g k).nm = x then (k : Int) else namedI g x r (k + 1)
theorem var3 {w w2 : World} {t : TypeId} {a b c : Value} (h : Below (w.alloc (.cells #[a, b, c] t)).heap.size (w.alloc (.cells #[a, b, c] t)) w2) :
    w2.cell? ⟨w.heap.size, 0, none⟩ = some a ∧ w2.cell? ⟨w.heap.size, 1, none⟩ = some b ∧ w2.cell? ⟨w.heap.size, 2, none⟩ = some c := by
  have key : ∀ (j : Nat) (u : Value), #[a, b, c][j]? = some u → w2.cell? ⟨w.heap.size, j, none⟩ = some u := by
    intro j u hu
    have h0 : (w.alloc (.cells #[a, b, c] t)).cell? ⟨w.heap.size, j, none⟩ = some u := by
      rw [cell_of_row _ w.heap.size j #[a, b, c] t (0, 0) (heap_alloc_new w _)]
      exact hu
    exact (h.cell (p := ⟨w.heap.size, j, none⟩) (World.block_lt_of_cell? _ _ h0)).trans h0
  exact ⟨key 0 a rfl, key 1 b rfl, key 2 c rfl⟩
theorem var3_below {w w2 : World} {B : Nat} {a b c : Value} (k0 : w.cell? ⟨B, 0, none⟩ = some a) (k1 : w.cell? ⟨B, 1, none⟩ = some b) (k2 : w.cell? ⟨B, 2, none⟩ = some c) (h : Below w.heap.size w w2) :
    w2.cell? ⟨B, 0, none⟩ = some a ∧ w2.cell? ⟨B, 1, none⟩ = some b ∧ w2.cell? ⟨B, 2, none⟩ = some c := by
  have hlt : B < w.heap.size := World.block_lt_of_cell? w _ k0
  exact ⟨(h.cell (p := ⟨B, 0, none⟩) hlt).trans k0, (h.cell (p := ⟨B, 1, none⟩) hlt).trans k1, (h.cell (p := ⟨B, 2, none⟩) hlt).trans k2⟩
theorem TeamRow.take {w : World} {b off cap n : Nat} {g : Nat → TeamD} (k : Nat) (hk : k ≤ n) (hn : n ≤ 9223372036854775807) (hcap : n ≤ cap)
    (h : ∀ i, i < n → w.cell? ⟨b, off + i * 3, none⟩ = some (.string (g i).nm) ∧ w.cell? ⟨b, off + i * 3 + 1, none⟩ = some (.int .i64 (g i).club) ∧ w.cell? ⟨b, off + i * 3 + 2, none⟩ = some (.int .i64 (g i).seed)) :
    TeamRow w (.slice (some ⟨b, off, none⟩) k cap) k g := by
  by_cases h0 : k = 0
  · subst h0; exact .inl ⟨_, _, rfl, rfl⟩
  · exact .inr ⟨b, off, cap, rfl, by omega, by omega, fun i hi => h i (by omega), by omega⟩
theorem TeamRow.form' {w : World} {v : Value} {n : Nat} {g : Nat → TeamD} (h : TeamRow w v n g) :
    ∃ a cap, v = .slice a n cap ∧ n ≤ 9223372036854775807 ∧ (0 < n → ∃ b off, a = some ⟨b, off, none⟩ ∧ n ≤ cap ∧
      ∀ i, i < n → w.cell? ⟨b, off + i * 3, none⟩ = some (.string (g i).nm) ∧ w.cell? ⟨b, off + i * 3 + 1, none⟩ = some (.int .i64 (g i).club) ∧ w.cell? ⟨b, off + i * 3 + 2, none⟩ = some (.int .i64 (g i).seed)) := by
  rcases h with ⟨a, cap, rfl, rfl⟩ | ⟨b, off, cap, rfl, _, hn, hc, hcap⟩
  · exact ⟨_, _, rfl, by omega, fun h => absurd h (by omega)⟩
  · exact ⟨_, _, rfl, hn, fun _ => ⟨b, off, rfl, hcap, hc⟩⟩

def freshP (g : Nat → TeamD) (i : Nat) : Prop := teamP (g i) ∧ ∀ j, j < i → (g j).nm ≠ (g i).nm ∧ (g j).seed ≠ (g i).seed
def fieldP (n : Nat) (g : Nat → TeamD) : Prop := (2 ≤ n ∧ n ≤ 8) ∧ ∀ i, i < n → freshP g i
theorem fieldOk_yes (v : Value) (n : Nat) (g : Nat → TeamD) (w : World) (h : TeamRow w v n g) (hg : ∀ i, (g i).nm.size ≤ maxLen) (hp : fieldP n g) :
    Calls Tryz.prog 88 #[v] w fun e w' => e = .returned (.bool true) ∧ Below w.heap.size w w' := by
  obtain ⟨hn8, hall⟩ := hp
  obtain ⟨a, cap, rfl, hn, hv⟩ := h.form'
  have HV := Lib.hid hv
  have HA := Lib.hid hall
  have HG := Lib.hid hg
  clear hv h hall hg
  go_enter Tryz.func88, Tryz.ntmps88
  go_wp2_with (go_at_call 45; refine (l01In_yes _ _ _ _ (by omega)).mono ?_; rintro e w' ⟨rfl, rfl⟩)
  go_loopw [13] (fun i wr => ∃ k : Nat, k ≤ n ∧ i = .int .i64 k ∧ Below w.heap.size w wr) (fun i _ => n - (RowKit.intOf i).toNat)
  case atStart => exact ⟨0, Nat.zero_le _, rfl, Below.refl _ _⟩
  case round =>
    obtain ⟨k, hk, rfl, hb⟩ := hrel
    by_cases hlt : k < n
    · obtain ⟨b, off, rfl, hcap, hc⟩ := HV.out (by omega)
      obtain ⟨c0, c1, c2⟩ := cells_below hb (hc k hlt)
      obtain ⟨hx, hno⟩ := HA.out k hlt
      have HC : Hid (∀ i, i < k → (w.cell? ⟨b, off + i * 3, none⟩ = some (.string (g i).nm) ∧ w.cell? ⟨b, off + i * 3 + 1, none⟩ = some (.int .i64 (g i).club) ∧ w.cell? ⟨b, off + i * 3 + 2, none⟩ = some (.int .i64 (g i).seed))) := fun i hi => hc i (by omega)
      have HNO := Lib.hid hno
      have HX := Lib.hid hx
      have hgk := HG.out k
      have hk9 : (k : Int) ≤ cap := by omega
      clear hc HV HA hno hx HG
      generalize hy : g k = x at c0 c1 c2 HNO HX hgk
      clear hy
      go_wp2_with (go_at_call 118; refine (teamOk_yes x _ hgk HX.out).mono ?_; rintro e w2 ⟨rfl, b2⟩; have K := Lib.hid (var3 b2); have hb2 : Below w.heap.size w w2 := (hb.alloc hb.size _).trans (b2.mono (Nat.le_trans hb.size (by simp))))
      have HB2 := Lib.hid hb2
      clear b2 hb hb2 c0 c1 c2
      generalize wr.heap.size = B at *
      go_loopw [25] (fun i wi => ∃ j : Nat, j ≤ k ∧ i = .int .i64 j ∧ Below w2.heap.size w2 wi) (fun i _ => k - (RowKit.intOf i).toNat)
      case atStart => exact ⟨0, Nat.zero_le _, rfl, Below.refl _ _⟩
      case round =>
        obtain ⟨j, hj, rfl, hbi⟩ := hrel
        obtain ⟨v0, v1, v2⟩ := K.out
        have hvb := World.block_lt_of_cell? w2 _ v0
        have v0 := (hbi.cell (p := ⟨B, 0, none⟩) hvb).trans v0
        have v2 := (hbi.cell (p := ⟨B, 2, none⟩) hvb).trans v2
        clear K v1
        by_cases hj' : j < k
        · have hbo : Below w.heap.size w wr := HB2.out.trans (hbi.mono HB2.out.size)
          obtain ⟨c0, c1, c2⟩ := cells_below hbo (HC.out j hj')
          obtain ⟨hn1, hn2⟩ := HNO.out j hj'
          have g1 : ((g j).nm.toList == x.nm.toList) = false := bytes_ne hn1
          have g2 : ((g j).seed == x.seed) = false := by simpa using hn2
          clear hn1 hn2 HC HNO hbo
          generalize g j = y at c0 c1 c2 g1 g2
          have hwb := World.block_lt_of_cell? wr _ v0
          have V0 : (wr.alloc (.cells #[.string y.nm, .int .i64 y.club, .int .i64 y.seed] 124)).cell? ⟨B, 0, none⟩ = some (.string x.nm) :=
            (((Below.refl wr.heap.size wr).alloc (Nat.le_refl _) _).cell (p := ⟨B, 0, none⟩) hwb).trans v0
          have V2 : (wr.alloc (.cells #[.string y.nm, .int .i64 y.club, .int .i64 y.seed] 124)).cell? ⟨B, 2, none⟩ = some (.int .i64 x.seed) :=
            (((Below.refl wr.heap.size wr).alloc (Nat.le_refl _) _).cell (p := ⟨B, 2, none⟩) hwb).trans v2
          clear v0 v2
          go_wp2
          go_roundw
          case rel => exact ⟨j + 1, by omega, by go_num, hbi.alloc hbi.size _⟩
          case measure => simp [RowKit.intOf]; omega
        · go_wp2
          go_roundw
          case rel => exact ⟨k + 1, by omega, by go_num, HB2.out.trans (hbi.mono HB2.out.size)⟩
          case measure => simp [RowKit.intOf]; omega
    · go_wp2
      go_ret
      exact ⟨rfl, hb⟩
theorem fieldOk_no (v : Value) (n : Nat) (g : Nat → TeamD) (w : World) (h : TeamRow w v n g) (hg : ∀ i, (g i).nm.size ≤ maxLen) (hp : ¬ fieldP n g) :
    Calls Tryz.prog 88 #[v] w fun e w' => e = .returned (.bool false) ∧ Below w.heap.size w w' := by
  obtain ⟨a, cap, rfl, hn, hv⟩ := h.form'
  have HV := Lib.hid hv
  have HG := Lib.hid hg
  clear hv h hg
  by_cases hn8 : ¬ ((2 : Int) ≤ n ∧ (n : Int) ≤ 8)
  · clear hp HV HG
    go_enter Tryz.func88, Tryz.ntmps88
    go_wp2_with (go_at_call 45; refine (l01In_no _ _ _ _ (by omega)).mono ?_; rintro e w' ⟨rfl, rfl⟩)
    go_ret
    exact ⟨rfl, Below.refl _ _⟩
  replace hn8 := Decidable.not_not.1 hn8
  have HA : Hid (¬ ∀ i, i < n → freshP g i) := fun h => hp ⟨by omega, h⟩
  clear hp
  go_enter Tryz.func88, Tryz.ntmps88
  go_wp2_with (go_at_call 45; refine (l01In_yes _ _ _ _ (by omega)).mono ?_; rintro e w' ⟨rfl, rfl⟩)
  go_loopw [13] (fun i wr => ∃ k : Nat, k ≤ n ∧ i = .int .i64 k ∧ Hid (∀ i, i < k → freshP g i) ∧ Below w.heap.size w wr) (fun i _ => n - (RowKit.intOf i).toNat)
  case atStart => exact ⟨0, Nat.zero_le _, rfl, fun i hi => absurd hi (by omega), Below.refl _ _⟩
  case round =>
    obtain ⟨k, hk, rfl, hf, hb⟩ := hrel
    by_cases hlt : k < n
    · obtain ⟨b, off, rfl, hcap, hc⟩ := HV.out (by omega)
      obtain ⟨c0, c1, c2⟩ := cells_below hb (hc k hlt)
      have HC : Hid (∀ i, i < k → (w.cell? ⟨b, off + i * 3, none⟩ = some (.string (g i).nm) ∧ w.cell? ⟨b, off + i * 3 + 1, none⟩ = some (.int .i64 (g i).club) ∧ w.cell? ⟨b, off + i * 3 + 2, none⟩ = some (.int .i64 (g i).seed))) := fun i hi => hc i (by omega)
      have HS : Hid (freshP g k → ∀ i, i < k + 1 → freshP g i) := fun h i hi => by
        by_cases hik : i = k
        · subst hik; exact h
        · exact hf.out i (by omega)
      have hgk := HG.out k
      have hk9 : (k : Int) ≤ cap := by omega
      clear hc HV HA HG hf
      by_cases hx : ¬ teamP (g k)
      · have HX := Lib.hid hx
        clear hx HC HS
        generalize g k = x at *
        go_wp2_with (go_at_call 118; refine (teamOk_no x _ hgk HX.out).mono ?_; rintro e w2 ⟨rfl, b2⟩; have hb2 : Below w.heap.size w w2 := (hb.alloc hb.size _).trans (b2.mono (Nat.le_trans hb.size (by simp))))
        go_ret
        exact ⟨rfl, hb2⟩
      replace hx := Classical.not_not.1 hx
      have HX := Lib.hid hx
      have HF : Hid ((∀ j, j < k → (g j).nm ≠ (g k).nm ∧ (g j).seed ≠ (g k).seed) → ∀ i, i < k + 1 → freshP g i) := fun h => HS.out ⟨HX.out, h⟩
      clear hx HS
      have HY : Hid (g k = g k) := rfl
      generalize hy : g k = x at c0 c1 c2 HX hgk
      have HE := Lib.hid hy
      clear hy HY
      go_wp2_with (go_at_call 118; refine (teamOk_yes x _ hgk HX.out).mono ?_; rintro e w2 ⟨rfl, b2⟩; have K := Lib.hid (var3 b2); have hb2 : Below w.heap.size w w2 := (hb.alloc hb.size _).trans (b2.mono (Nat.le_trans hb.size (by simp))))
      have HB2 := Lib.hid hb2
      clear b2 hb hb2 c0 c1 c2
      generalize wr.heap.size = B at *
      go_loopw [25] (fun i wi => ∃ j : Nat, j ≤ k ∧ i = .int .i64 j ∧ Hid (∀ t, t < j → (g t).nm ≠ x.nm ∧ (g t).seed ≠ x.seed) ∧ Below w2.heap.size w2 wi) (fun i _ => k - (RowKit.intOf i).toNat)
      case atStart => exact ⟨0, Nat.zero_le _, rfl, fun i hi => absurd hi (by omega), Below.refl _ _⟩
      case round =>
        obtain ⟨j, hj, rfl, hfi, hbi⟩ := hrel
        obtain ⟨v0, v1, v2⟩ := K.out
        have hvb := World.block_lt_of_cell? w2 _ v0
        have v0 := (hbi.cell (p := ⟨B, 0, none⟩) hvb).trans v0
        have v2 := (hbi.cell (p := ⟨B, 2, none⟩) hvb).trans v2
        clear K v1
        have HBO := Lib.hid (HB2.out.trans (hbi.mono HB2.out.size))
        by_cases hj' : j < k
        · obtain ⟨c0, c1, c2⟩ := cells_below HBO.out (HC.out j hj')
          have HN : Hid ((g j).nm ≠ x.nm → (g j).seed ≠ x.seed → ∀ t, t < j + 1 → (g t).nm ≠ x.nm ∧ (g t).seed ≠ x.seed) := fun h1 h2 t ht => by
            by_cases htj : t = j
            · subst htj; exact ⟨h1, h2⟩
            · exact hfi.out t (by omega)
          have hwb := World.block_lt_of_cell? wr _ v0
          have V0 : ∀ y : TeamD, Hid ((wr.alloc (.cells #[.string y.nm, .int .i64 y.club, .int .i64 y.seed] 124)).cell? ⟨B, 0, none⟩ = some (.string x.nm)) := fun y =>
            (((Below.refl wr.heap.size wr).alloc (Nat.le_refl _) _).cell (p := ⟨B, 0, none⟩) hwb).trans v0
          have V2 : ∀ y : TeamD, Hid ((wr.alloc (.cells #[.string y.nm, .int .i64 y.club, .int .i64 y.seed] 124)).cell? ⟨B, 2, none⟩ = some (.int .i64 x.seed)) := fun y =>
            (((Below.refl wr.heap.size wr).alloc (Nat.le_refl _) _).cell (p := ⟨B, 2, none⟩) hwb).trans v2
          have V0 := (V0 (g j)).out
          have V2 := (V2 (g j)).out
          clear v0 v2 HC HF HE hfi
          by_cases h1 : (g j).nm = x.nm
          · rw [h1] at c0
            clear HN
            generalize g j = y at *
            rw [h1] at V0 V2
            clear h1
            go_wp2
            go_ret
            exact ⟨rfl, HBO.out.alloc HBO.out.size _⟩
          · have g1 : ((g j).nm.toList == x.nm.toList) = false := bytes_ne h1
            by_cases h2 : (g j).seed = x.seed
            · clear HN h1
              generalize g j = y at *
              have g2 : (y.seed == x.seed) = true := by simpa using h2
              clear h2
              go_wp2
              go_ret
              exact ⟨rfl, HBO.out.alloc HBO.out.size _⟩
            · have g2 : ((g j).seed == x.seed) = false := by simpa using h2
              have HN2 := Lib.hid (HN.out h1 h2)
              clear h1 h2 HN
              generalize g j = y at c0 c1 c2 g1 g2 V0 V2
              go_wp2
              go_roundw
              case rel => exact ⟨j + 1, by omega, by go_num, HN2.out, hbi.alloc hbi.size _⟩
              case measure => simp [RowKit.intOf]; omega
        · obtain rfl : j = k := by omega
          have HF2 : Hid (∀ i, i < j + 1 → freshP g i) := HF.out (by rw [HE.out]; exact hfi.out)
          clear HF hfi HE v0 v2
          go_wp2
          go_roundw
          case rel => exact ⟨j + 1, by omega, by go_num, HF2.out, HBO.out⟩
          case measure => simp [RowKit.intOf]; omega
    · obtain rfl : k = n := by omega
      exact absurd hf.out HA.out
end Go.Proofs.YteciobkjfmddcaaGreat
