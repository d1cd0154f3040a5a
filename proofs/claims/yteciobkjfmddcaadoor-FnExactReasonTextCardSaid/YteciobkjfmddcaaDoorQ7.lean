/-
  Packed: Tables3, Keys, Orders, RulesOk, Tables4, Field, Clubs, BookOk, BookOf, RsnRd.
-/
import Derived.Test.YteciobkjfmddcaaDoorQ1
import Derived.Test.YteciobkjfmddcaaDoorQ2
import Derived.Test.YteciobkjfmddcaaDoorQ3
import Derived.Test.YteciobkjfmddcaaDoorQ5
import Derived.Test.YteciobkjfmddcaaDoorQ6
set_option linter.unusedVariables false
namespace Go.Proofs.YteciobkjfmddcaaDoor
open Go.RowKit

def homeR (win draw loss : Int) (x : GameD) : RowD :=
  if outcomeD x = 1 then ⟨1, 1, 0, 0, (goalsD x).1, (goalsD x).2.1, win⟩ else if outcomeD x = 2 then ⟨1, 0, 1, 0, (goalsD x).1, (goalsD x).2.1, draw⟩ else ⟨1, 0, 0, 1, (goalsD x).1, (goalsD x).2.1, loss⟩
def awayR (win draw loss : Int) (x : GameD) : RowD :=
  if outcomeD x = 1 then ⟨1, 0, 0, 1, (goalsD x).2.1, (goalsD x).1, loss⟩ else if outcomeD x = 2 then ⟨1, 0, 1, 0, (goalsD x).2.1, (goalsD x).1, draw⟩ else ⟨1, 1, 0, 0, (goalsD x).2.1, (goalsD x).1, win⟩
def putR (r : Nat → RowD) (t : Nat) (y : RowD) : Nat → RowD := fun i => if i = t then y else r i
def addG (win draw loss : Int) (r : Nat → RowD) (x : GameD) : Nat → RowD :=
  if (goalsD x).2.2 = true then
    putR (putR r x.home.toNat (addW (r x.home.toNat) (homeR win draw loss x))) x.away.toNat (addW (putR r x.home.toNat (addW (r x.home.toNat) (homeR win draw loss x)) x.away.toNat) (awayR win draw loss x))
  else r
theorem outcome_cases (x : GameD) (h : (goalsD x).2.2 = true) : outcomeD x = 1 ∨ outcomeD x = 2 ∨ outcomeD x = 3 := by
  unfold outcomeD
  rw [if_pos h]
  split
  · exact .inl rfl
  · split
    · exact .inr (.inl rfl)
    · exact .inr (.inr rfl)
theorem homeR_is (win draw loss : Int) (x : GameD) : (outcomeD x = 1 → homeR win draw loss x = ⟨1, 1, 0, 0, (goalsD x).1, (goalsD x).2.1, win⟩) ∧ (outcomeD x = 2 → homeR win draw loss x = ⟨1, 0, 1, 0, (goalsD x).1, (goalsD x).2.1, draw⟩) ∧ (outcomeD x = 3 → homeR win draw loss x = ⟨1, 0, 0, 1, (goalsD x).1, (goalsD x).2.1, loss⟩) := by
  unfold homeR
  exact ⟨fun h => by rw [if_pos h], fun h => by rw [if_neg (by omega), if_pos h], fun h => by rw [if_neg (by omega), if_neg (by omega)]⟩
theorem awayR_is (win draw loss : Int) (x : GameD) : (outcomeD x = 1 → awayR win draw loss x = ⟨1, 0, 0, 1, (goalsD x).2.1, (goalsD x).1, loss⟩) ∧ (outcomeD x = 2 → awayR win draw loss x = ⟨1, 0, 1, 0, (goalsD x).2.1, (goalsD x).1, draw⟩) ∧ (outcomeD x = 3 → awayR win draw loss x = ⟨1, 1, 0, 0, (goalsD x).2.1, (goalsD x).1, win⟩) := by
  unfold awayR
  exact ⟨fun h => by rw [if_pos h], fun h => by rw [if_neg (by omega), if_pos h], fun h => by rw [if_neg (by omega), if_neg (by omega)]⟩
theorem cells_put {n t : Nat} {xs : List Value} {r : Nat → RowD} {y : RowD} (h : RecCells 7 n xs fun i => (r i).cells) (hl : xs.length = n * 7) (ht : t < n) :
    RecCells 7 n (setsFrom xs (t * 7) y.cells) fun i => (putR r t y i).cells :=
  RecCells.congr (cells_update h hl ht rfl fun _ _ => Nat.le_refl _) fun i _ => by unfold putR; by_cases e : i = t <;> simp [e]
theorem touch_put {a w : World} {lo hi gg t : Nat} {y : RowD} (h : Touch lo hi a w) (h1 : lo ≤ gg) (h2 : gg < hi) : Touch lo hi a (((((((w.setCell ⟨gg, t * 7, none⟩ (Value.int .i64 y.played)).setCell ⟨gg, t * 7 + 1, none⟩ (Value.int .i64 y.wins)).setCell ⟨gg, t * 7 + 2, none⟩ (Value.int .i64 y.draws)).setCell ⟨gg, t * 7 + 3, none⟩ (Value.int .i64 y.losses)).setCell ⟨gg, t * 7 + 4, none⟩ (Value.int .i64 y.scored)).setCell ⟨gg, t * 7 + 5, none⟩ (Value.int .i64 y.against)).setCell ⟨gg, t * 7 + 6, none⟩ (Value.int .i64 y.points)) :=
  Touch.setCell (Touch.setCell (Touch.setCell (Touch.setCell (Touch.setCell (Touch.setCell (Touch.setCell (h) ⟨gg, t * 7, none⟩ (Value.int .i64 y.played) h1 h2) ⟨gg, t * 7 + 1, none⟩ (Value.int .i64 y.wins) h1 h2) ⟨gg, t * 7 + 2, none⟩ (Value.int .i64 y.draws) h1 h2) ⟨gg, t * 7 + 3, none⟩ (Value.int .i64 y.losses) h1 h2) ⟨gg, t * 7 + 4, none⟩ (Value.int .i64 y.scored) h1 h2) ⟨gg, t * 7 + 5, none⟩ (Value.int .i64 y.against) h1 h2) ⟨gg, t * 7 + 6, none⟩ (Value.int .i64 y.points) h1 h2

theorem box_put {w : World} {B gg t : Nat} {cs : List Value} {y : RowD} (h : BoxN w B cs) (hB : B ≠ gg) : BoxN (((((((w.setCell ⟨gg, t * 7, none⟩ (Value.int .i64 y.played)).setCell ⟨gg, t * 7 + 1, none⟩ (Value.int .i64 y.wins)).setCell ⟨gg, t * 7 + 2, none⟩ (Value.int .i64 y.draws)).setCell ⟨gg, t * 7 + 3, none⟩ (Value.int .i64 y.losses)).setCell ⟨gg, t * 7 + 4, none⟩ (Value.int .i64 y.scored)).setCell ⟨gg, t * 7 + 5, none⟩ (Value.int .i64 y.against)).setCell ⟨gg, t * 7 + 6, none⟩ (Value.int .i64 y.points)) B cs := (BoxN.elsewhere (BoxN.elsewhere (BoxN.elsewhere (BoxN.elsewhere (BoxN.elsewhere (BoxN.elsewhere (BoxN.elsewhere h (D := gg) (t * 7) (Value.int .i64 y.played) hB) (D := gg) (t * 7 + 1) (Value.int .i64 y.wins) hB) (D := gg) (t * 7 + 2) (Value.int .i64 y.draws) hB) (D := gg) (t * 7 + 3) (Value.int .i64 y.losses) hB) (D := gg) (t * 7 + 4) (Value.int .i64 y.scored) hB) (D := gg) (t * 7 + 5) (Value.int .i64 y.against) hB) (D := gg) (t * 7 + 6) (Value.int .i64 y.points) hB)

end Go.Proofs.YteciobkjfmddcaaDoor
set_option linter.unusedVariables false
namespace Go.Proofs.YteciobkjfmddcaaDoor
open Go.RowKit

theorem barr_ne {x y : ByteArray} (h : x ≠ y) : (x.toList == y.toList) = false := by
  rw [beq_eq_false_iff_ne, ne_eq, ByteArray.toList_eq, ByteArray.toList_eq]
  exact fun e => h (ByteArray.ext (Array.toList_inj.mp e))
def knm (k : Nat) : ByteArray := match k with
  | 1 => ⟨#[112, 111, 105, 110, 116, 115]⟩
  | 2 => ⟨#[100, 105, 102, 102, 101, 114, 101, 110, 99, 101]⟩
  | 3 => ⟨#[115, 99, 111, 114, 101, 100]⟩
  | 4 => ⟨#[119, 105, 110, 115]⟩
  | 5 => ⟨#[109, 117, 116, 117, 97, 108]⟩
  | 6 => ⟨#[109, 117, 116, 117, 97, 108, 100, 105, 102, 102, 101, 114, 101, 110, 99, 101]⟩
  | 7 => ⟨#[102, 97, 105, 114]⟩
  | 8 => ⟨#[115, 101, 101, 100]⟩
  | _ => ⟨#[]⟩
theorem l03Names_any (w : World) :
    Calls Tryd.prog 42 #[] w fun e w' => e = .returned (.slice (some ⟨w.heap.size, 0, none⟩) 8 8) ∧ (∀ i, i < 8 → w'.cell? ⟨w.heap.size, i, none⟩ = some (.string (knm (i + 1)))) ∧ Below w.heap.size w w' := by
  go_enter Tryd.func42, Tryd.ntmps42
  go_wp2
  go_ret
  refine ⟨rfl, fun i hi => ?_, (Below.refl _ _).alloc (Nat.le_refl _) _⟩
  rw [cell_of_row _ w.heap.size i _ _ (0, 0) (heap_alloc_new w _)]
  have : i = 0 ∨ i = 1 ∨ i = 2 ∨ i = 3 ∨ i = 4 ∨ i = 5 ∨ i = 6 ∨ i = 7 := by omega
  rcases this with rfl | rfl | rfl | rfl | rfl | rfl | rfl | rfl <;> rfl
theorem keyName_yes (k : Nat) (w : World) (h1 : 1 ≤ k) (h8 : k ≤ 8) :
    Calls Tryd.prog 17 #[.int .i64 (k : Int)] w fun e w' => e = .returned (.string (knm k)) ∧ Below w.heap.size w w' := by
  obtain ⟨j, rfl⟩ : ∃ j, k = j + 1 := ⟨k - 1, by omega⟩
  go_enter Tryd.func17, Tryd.ntmps17
  go_wp2_with (go_at_call 41; refine (l01In_yes _ _ _ _ (by omega)).mono ?_; rintro e w' ⟨rfl, rfl⟩)
  refine (l03Names_any _).mono ?_
  rintro e w1 ⟨rfl, hc, hb⟩
  have c1 := hc j (by omega)
  clear hc
  generalize hs : knm (j + 1) = s at *
  have Hs := Lib.hid hs
  clear hs
  go_wp2
  go_ret
  exact ⟨by rw [Hs.out]; rfl, hb⟩
theorem keyName_no (k : Int) (w : World) (h : ¬ (1 ≤ k ∧ k ≤ 8)) :
    Calls Tryd.prog 17 #[.int .i64 k] w fun e w' => e = .returned (.string ⟨#[]⟩) ∧ Below w.heap.size w w' := by
  go_enter Tryd.func17, Tryd.ntmps17
  go_wp2_with (go_at_call 41; refine (l01In_no _ _ _ _ h).mono ?_; rintro e w' ⟨rfl, rfl⟩)
  go_ret
  exact ⟨rfl, Below.refl _ _⟩
theorem keyNameI_yes (k : Nat) (w : World) (h1 : 1 ≤ k) (h8 : k ≤ 8) :
    Calls Tryd.prog 27 #[.int .i64 (k : Int)] w fun e w' => e = .returned (.string (knm k)) ∧ w = w' := by
  have : k = 1 ∨ k = 2 ∨ k = 3 ∨ k = 4 ∨ k = 5 ∨ k = 6 ∨ k = 7 ∨ k = 8 := by omega
  rcases this with rfl | rfl | rfl | rfl | rfl | rfl | rfl | rfl
  all_goals
    go_enter Tryd.func27, Tryd.ntmps27
    go_wp2
    go_ret
    exact ⟨rfl, rfl⟩
theorem keyNameI_no (k : Int) (w : World) (h : ¬ (1 ≤ k ∧ k ≤ 8)) :
    Calls Tryd.prog 27 #[.int .i64 k] w fun e w' => e = .returned (.string ⟨#[]⟩) ∧ w = w' := by
  have g1 : (k == 1) = false := beq_eq_false_iff_ne.2 (by omega)
  have g2 : (k == 2) = false := beq_eq_false_iff_ne.2 (by omega)
  have g3 : (k == 3) = false := beq_eq_false_iff_ne.2 (by omega)
  have g4 : (k == 4) = false := beq_eq_false_iff_ne.2 (by omega)
  have g5 : (k == 5) = false := beq_eq_false_iff_ne.2 (by omega)
  have g6 : (k == 6) = false := beq_eq_false_iff_ne.2 (by omega)
  have g7 : (k == 7) = false := beq_eq_false_iff_ne.2 (by omega)
  have g8 : (k == 8) = false := beq_eq_false_iff_ne.2 (by omega)
  clear h
  go_enter Tryd.func27, Tryd.ntmps27
  go_wp2
  go_ret
  exact ⟨rfl, rfl⟩
def knmI (k : Int) : ByteArray := if 1 ≤ k ∧ k ≤ 8 then knm k.toNat else ⟨#[]⟩
theorem keyName_spec (k : Int) (w : World) :
    Calls Tryd.prog 17 #[.int .i64 k] w fun e w' => e = .returned (.string (knmI k)) ∧ Below w.heap.size w w' := by
  unfold knmI
  by_cases h : 1 ≤ k ∧ k ≤ 8
  · rw [if_pos h]
    obtain ⟨j, rfl⟩ : ∃ j : Nat, k = j := ⟨k.toNat, by omega⟩
    rw [Int.toNat_natCast]
    exact keyName_yes j w (by omega) (by omega)
  · rw [if_neg h]
    exact keyName_no k w h
theorem keyName_impl (k : Int) (w : World) :
    Calls Tryd.prog 27 #[.int .i64 k] w fun e w' => e = .returned (.string (knmI k)) ∧ w = w' := by
  unfold knmI
  by_cases h : 1 ≤ k ∧ k ≤ 8
  · rw [if_pos h]
    obtain ⟨j, rfl⟩ : ∃ j : Nat, k = j := ⟨k.toNat, by omega⟩
    rw [Int.toNat_natCast]
    exact keyNameI_yes j w (by omega) (by omega)
  · rw [if_neg h]
    exact keyNameI_no k w h

def keyLead (s : ByteArray) : Nat → Nat → Nat
  | 0, _ => 0
  | r + 1, k => if knm k = s then k else keyLead s r (k + 1)
def mutualB (k : Int) : Bool := decide (k = 5 ∨ k = 6)
theorem isMutual_spec (k : Int) (w : World) : Calls Tryd.prog 20 #[.int .i64 k] w fun e w' => e = .returned (.bool (mutualB k)) ∧ w = w' := by
  generalize hr : mutualB k = R
  unfold mutualB at hr
  by_cases h5 : k = 5
  · subst h5
    obtain rfl : R = true := by simpa using hr.symm
    clear hr
    go_enter Tryd.func20, Tryd.ntmps20
    go_wp2
    go_ret
    exact ⟨rfl, rfl⟩
  by_cases h6 : k = 6
  · subst h6
    obtain rfl : R = true := by simpa using hr.symm
    clear hr h5
    go_enter Tryd.func20, Tryd.ntmps20
    go_wp2
    go_ret
    exact ⟨rfl, rfl⟩
  · obtain rfl : R = false := by simpa [h5, h6] using hr.symm
    have g5 : (k == 5) = false := beq_eq_false_iff_ne.2 h5
    have g6 : (k == 6) = false := beq_eq_false_iff_ne.2 h6
    clear hr h5 h6
    go_enter Tryd.func20, Tryd.ntmps20
    go_wp2
    go_ret
    exact ⟨rfl, rfl⟩
theorem isMutual_impl (k : Int) (w : World) : Calls Tryd.prog 30 #[.int .i64 k] w fun e w' => e = .returned (.bool (mutualB k)) ∧ w = w' := by
  generalize hr : mutualB k = R
  unfold mutualB at hr
  by_cases h5 : k = 5
  · subst h5
    obtain rfl : R = true := by simpa using hr.symm
    clear hr
    go_enter Tryd.func30, Tryd.ntmps30
    go_wp2
    go_ret
    exact ⟨rfl, rfl⟩
  by_cases h6 : k = 6
  · subst h6
    obtain rfl : R = true := by simpa using hr.symm
    clear hr h5
    go_enter Tryd.func30, Tryd.ntmps30
    go_wp2
    go_ret
    exact ⟨rfl, rfl⟩
  · obtain rfl : R = false := by simpa [h5, h6] using hr.symm
    have g5 : (k == 5) = false := beq_eq_false_iff_ne.2 h5
    have g6 : (k == 6) = false := beq_eq_false_iff_ne.2 h6
    clear hr h5 h6
    go_enter Tryd.func30, Tryd.ntmps30
    go_wp2
    go_ret
    exact ⟨rfl, rfl⟩
end Go.Proofs.YteciobkjfmddcaaDoor
set_option linter.unusedVariables false
namespace Go.Proofs.YteciobkjfmddcaaDoor
open Go.RowKit

def hasP (g : Nat → Int) (x : Int) (n : Nat) : Prop := ∃ j, j < n ∧ g j = x
theorem hasP_at {g : Nat → Int} {x : Int} {n j : Nat} (h : j < n) (hg : g j = x) : hasP g x n := ⟨j, h, hg⟩
theorem l02Has_yes (v : Value) (n : Nat) (g : Nat → Int) (x : Int) (w : World) (h : IntRow w v n g) (hp : hasP g x n) :
    Calls Tryd.prog 57 #[v, .int .i64 x] w fun e w' => e = .returned (.bool true) ∧ w = w' := by
  obtain ⟨a, cap, rfl, hn, hv⟩ := h.form
  have HV := Lib.hid hv
  have HP := Lib.hid hp
  clear hv h hp
  go_enter Tryd.func57, Tryd.ntmps57
  go_wp2
  go_loop [9] (fun i => ∃ k : Nat, k ≤ n ∧ i = .int .i64 k ∧ Hid (∀ j, j < k → g j ≠ x)) (fun i => n - (RowKit.intOf i).toNat)
  case atStart => exact ⟨0, Nat.zero_le _, rfl, fun j hj => absurd hj (by omega)⟩
  case round =>
    obtain ⟨k, hk, rfl, hno⟩ := hrel
    by_cases hlt : k < n
    · obtain ⟨b, off, rfl, hc⟩ := HV.out (by omega)
      have c1 := hc k hlt
      have HK := Lib.hid (rfl : g k = g k)
      have HN : ∀ y, g k = y → y ≠ x → Hid (∀ j, j < k + 1 → g j ≠ x) := fun y hy hx j hj => by
        by_cases hjk : j = k
        · rw [hjk, hy]; exact hx
        · exact hno.out j (by omega)
      have HN := Lib.hid HN
      generalize hy : g k = y at *
      have HY := Lib.hid hy
      clear hc HV hno hy HK
      by_cases hx : y = x
      · subst hx
        go_wp2
        go_ret
        exact ⟨rfl, rfl⟩
      · have g1 : (y == x) = false := by simpa using hx
        have HX := Lib.hid hx
        clear hx
        go_wp2
        go_round
        case rel => exact ⟨k + 1, by omega, by go_num, HN.out _ rfl HX.out⟩
        case measure => simp [RowKit.intOf]; omega
    · obtain ⟨j, hj, hjx⟩ := HP.out
      exact absurd hjx (hno.out j (by omega))
theorem l02Has_no (v : Value) (n : Nat) (g : Nat → Int) (x : Int) (w : World) (h : IntRow w v n g) (hp : ¬ hasP g x n) :
    Calls Tryd.prog 57 #[v, .int .i64 x] w fun e w' => e = .returned (.bool false) ∧ w = w' := by
  obtain ⟨a, cap, rfl, hn, hv⟩ := h.form
  have HV := Lib.hid hv
  have HP := Lib.hid hp
  clear hv h hp
  go_enter Tryd.func57, Tryd.ntmps57
  go_wp2
  go_loop [9] (fun i => ∃ k : Nat, k ≤ n ∧ i = .int .i64 k) (fun i => n - (RowKit.intOf i).toNat)
  case atStart => exact ⟨0, Nat.zero_le _, rfl⟩
  case round =>
    obtain ⟨k, hk, rfl⟩ := hrel
    by_cases hlt : k < n
    · obtain ⟨b, off, rfl, hc⟩ := HV.out (by omega)
      have c1 := hc k hlt
      have g1 : (g k == x) = false := by
        simp only [beq_eq_false_iff_ne, ne_eq]
        exact fun h => HP.out (hasP_at hlt h)
      clear hc HV
      generalize g k = y at *
      go_wp2
      go_round
      case rel => exact ⟨k + 1, by omega, by go_num⟩
      case measure => simp [RowKit.intOf]; omega
    · go_wp2
      go_ret
      exact ⟨rfl, rfl⟩

def placeI (g : Nat → Int) (x : Int) : Nat → Nat → Int
  | 0, _ => -1
  | r + 1, k => if g k = x then (k : Int) else placeI g x r (k + 1)
def orderP (m : Int) (n : Nat) (g : Nat → Int) : Prop := (0 ≤ m ∧ m ≤ 8) ∧ (n : Int) = m ∧ ∀ i, i < n → (0 ≤ g i ∧ g i ≤ m - 1) ∧ ¬ hasP g (g i) i
theorem IntRow.take {w : World} {b off cap n : Nat} {g : Nat → Int} (k : Nat) (hk : k ≤ n) (hn : n ≤ 9223372036854775807) (hcap : n ≤ cap) (h : ∀ i, i < n → w.cell? ⟨b, off + i, none⟩ = some (.int .i64 (g i))) :
    IntRow w (.slice (some ⟨b, off, none⟩) k cap) k g := by
  by_cases h0 : k = 0
  · subst h0; exact .inl ⟨_, _, rfl, rfl⟩
  · exact .inr ⟨b, off, cap, rfl, by omega, by omega, fun i hi => h i (by omega), by omega⟩
end Go.Proofs.YteciobkjfmddcaaDoor
set_option linter.unusedVariables false
namespace Go.Proofs.YteciobkjfmddcaaDoor
open Go.RowKit

def ladP (n : Nat) (g : Nat → Int) : Prop := (1 ≤ (n : Int) ∧ (n : Int) ≤ 8) ∧ ∀ i, i < n → (1 ≤ g i ∧ g i ≤ 8) ∧ ¬ hasP g (g i) i
def rulesP (win draw loss : Int) (n : Nat) (g : Nat → Int) : Prop := (0 ≤ win ∧ win ≤ 10) ∧ (0 ≤ draw ∧ draw ≤ win) ∧ (0 ≤ loss ∧ loss ≤ draw) ∧ ladP n g
theorem rulesOk_yes (win draw loss : Int) (ag : Bool) (v : Value) (n : Nat) (g : Nat → Int) (w : World) (h : IntRow w v n g) (hp : rulesP win draw loss n g) :
    Calls Tryd.prog 39 #[.agg #[.int .i64 win, .int .i64 draw, .int .i64 loss, v, .bool ag]] w fun e w' => e = .returned (.bool true) ∧ Below w.heap.size w w' := by
  obtain ⟨a, cap, rfl, hn, hv⟩ : ∃ a cap, v = .slice a n cap ∧ n ≤ 9223372036854775807 ∧ (0 < n → ∃ b off, a = some ⟨b, off, none⟩ ∧ n ≤ cap ∧ ∀ i, i < n → w.cell? ⟨b, off + i, none⟩ = some (.int .i64 (g i))) := by
    rcases h with ⟨a, cap, rfl, rfl⟩ | ⟨b, off, cap, rfl, _, hn, hc, hcap⟩
    · exact ⟨_, _, rfl, by omega, fun h => absurd h (by omega)⟩
    · exact ⟨_, _, rfl, hn, fun _ => ⟨b, off, rfl, hcap, hc⟩⟩
  obtain ⟨h1, h2, h3, h4, hall⟩ := hp
  have HV := Lib.hid hv
  have HA := Lib.hid hall
  clear hv h hall
  go_enter Tryd.func39, Tryd.ntmps39
  go_wp2_with (go_at_call 41; refine (l01In_yes _ _ _ _ (by omega)).mono ?_; rintro e w' ⟨rfl, rfl⟩)
  go_loop [35] (fun i => ∃ k : Nat, k ≤ n ∧ i = .int .i64 k) (fun i => n - (RowKit.intOf i).toNat)
  case atStart => exact ⟨0, Nat.zero_le _, rfl⟩
  case round =>
    obtain ⟨k, hk, rfl⟩ := hrel
    by_cases hlt : k < n
    · obtain ⟨b, off, rfl, hcap, hc⟩ := HV.out (by omega)
      have c1 := hc k hlt
      have hblt : b < w.heap.size := World.block_lt_of_cell? w _ c1
      obtain ⟨hx, hno⟩ := HA.out k hlt
      have HT := Lib.hid ((IntRow.take k hk hn hcap hc).below ((Below.refl _ w).alloc (Nat.le_refl _) (.cells #[.int .i64 win, .int .i64 draw, .int .i64 loss, .slice (some ⟨b, off, none⟩) n cap, .bool ag] 35)) (Nat.le_refl _))
      have HNO := Lib.hid hno
      clear hc HV HA hno
      generalize g k = x at *
      have hk9 : (k : Int) ≤ cap := by omega
      go_wp2_with (first | (go_at_call 41; refine (l01In_yes _ _ _ _ (by omega)).mono ?_; rintro e w' ⟨rfl, rfl⟩) | (go_at_call 57; refine (l02Has_no _ k g x _ HT.out HNO.out).mono ?_; rintro e w' ⟨rfl, rfl⟩))
      go_round
      case rel => exact ⟨k + 1, by omega, by go_num⟩
      case measure => simp [RowKit.intOf]; omega
    · go_wp2
      go_ret
      exact ⟨rfl, (Below.refl _ _).alloc (Nat.le_refl _) _⟩
theorem rulesOk_no (win draw loss : Int) (ag : Bool) (v : Value) (n : Nat) (g : Nat → Int) (w : World) (h : IntRow w v n g) (hp : ¬ rulesP win draw loss n g) :
    Calls Tryd.prog 39 #[.agg #[.int .i64 win, .int .i64 draw, .int .i64 loss, v, .bool ag]] w fun e w' => e = .returned (.bool false) ∧ Below w.heap.size w w' := by
  obtain ⟨a, cap, rfl, hn, hv⟩ : ∃ a cap, v = .slice a n cap ∧ n ≤ 9223372036854775807 ∧ (0 < n → ∃ b off, a = some ⟨b, off, none⟩ ∧ n ≤ cap ∧ ∀ i, i < n → w.cell? ⟨b, off + i, none⟩ = some (.int .i64 (g i))) := by
    rcases h with ⟨a, cap, rfl, rfl⟩ | ⟨b, off, cap, rfl, _, hn, hc, hcap⟩
    · exact ⟨_, _, rfl, by omega, fun h => absurd h (by omega)⟩
    · exact ⟨_, _, rfl, hn, fun _ => ⟨b, off, rfl, hcap, hc⟩⟩
  have HV := Lib.hid hv
  have HP := Lib.hid hp
  clear hv h hp
  by_cases h1 : 0 ≤ win ∧ win ≤ 10
  case neg =>
    go_enter Tryd.func39, Tryd.ntmps39
    go_wp2_with (go_at_call 41; refine (l01In_no _ _ _ _ h1).mono ?_; rintro e w' ⟨rfl, rfl⟩)
    go_ret
    exact ⟨rfl, (Below.refl _ _).alloc (Nat.le_refl _) _⟩
  by_cases h2 : 0 ≤ draw ∧ draw ≤ win
  case neg =>
    go_enter Tryd.func39, Tryd.ntmps39
    go_wp2_with fail
    refine (l01In_yes _ _ _ _ h1).mono ?_
    rintro e w' ⟨rfl, rfl⟩
    go_wp2_with fail
    refine (l01In_no _ _ _ _ h2).mono ?_
    rintro e w' ⟨rfl, rfl⟩
    go_wp2
    go_ret
    exact ⟨rfl, (Below.refl _ _).alloc (Nat.le_refl _) _⟩
  by_cases h3 : 0 ≤ loss ∧ loss ≤ draw
  case neg =>
    go_enter Tryd.func39, Tryd.ntmps39
    go_wp2_with fail
    refine (l01In_yes _ _ _ _ h1).mono ?_
    rintro e w' ⟨rfl, rfl⟩
    go_wp2_with fail
    refine (l01In_yes _ _ _ _ h2).mono ?_
    rintro e w' ⟨rfl, rfl⟩
    go_wp2_with fail
    refine (l01In_no _ _ _ _ h3).mono ?_
    rintro e w' ⟨rfl, rfl⟩
    go_wp2
    go_ret
    exact ⟨rfl, (Below.refl _ _).alloc (Nat.le_refl _) _⟩
  by_cases h4 : 1 ≤ (n : Int) ∧ (n : Int) ≤ 8
  case neg =>
    go_enter Tryd.func39, Tryd.ntmps39
    go_wp2_with fail
    refine (l01In_yes _ _ _ _ h1).mono ?_
    rintro e w' ⟨rfl, rfl⟩
    go_wp2_with fail
    refine (l01In_yes _ _ _ _ h2).mono ?_
    rintro e w' ⟨rfl, rfl⟩
    go_wp2_with fail
    refine (l01In_yes _ _ _ _ h3).mono ?_
    rintro e w' ⟨rfl, rfl⟩
    go_wp2_with fail
    refine (l01In_no _ _ _ _ h4).mono ?_
    rintro e w' ⟨rfl, rfl⟩
    go_wp2
    go_ret
    exact ⟨rfl, (Below.refl _ _).alloc (Nat.le_refl _) _⟩
  have HA : Hid (¬ ∀ i, i < n → (1 ≤ g i ∧ g i ≤ 8) ∧ ¬ hasP g (g i) i) := fun h => HP.out ⟨h1, h2, h3, h4, h⟩
  clear HP
  go_enter Tryd.func39, Tryd.ntmps39
  go_wp2_with (go_at_call 41; refine (l01In_yes _ _ _ _ (by omega)).mono ?_; rintro e w' ⟨rfl, rfl⟩)
  go_loop [35] (fun i => ∃ k : Nat, k ≤ n ∧ i = .int .i64 k ∧ Hid (∀ i, i < k → (1 ≤ g i ∧ g i ≤ 8) ∧ ¬ hasP g (g i) i)) (fun i => n - (RowKit.intOf i).toNat)
  case atStart => exact ⟨0, Nat.zero_le _, rfl, fun i hi => absurd hi (by omega)⟩
  case round =>
    obtain ⟨k, hk, rfl, hok⟩ := hrel
    by_cases hlt : k < n
    · obtain ⟨b, off, rfl, hcap, hc⟩ := HV.out (by omega)
      have c1 := hc k hlt
      have hblt : b < w.heap.size := World.block_lt_of_cell? w _ c1
      have HT := Lib.hid ((IntRow.take k hk hn hcap hc).below ((Below.refl _ w).alloc (Nat.le_refl _) (.cells #[.int .i64 win, .int .i64 draw, .int .i64 loss, .slice (some ⟨b, off, none⟩) n cap, .bool ag] 35)) (Nat.le_refl _))
      have HS : Hid (((1 ≤ g k ∧ g k ≤ 8) ∧ ¬ hasP g (g k) k) → ∀ i, i < k + 1 → (1 ≤ g i ∧ g i ≤ 8) ∧ ¬ hasP g (g i) i) := fun h i hi => by
        by_cases hik : i = k
        · subst hik; exact h
        · exact hok.out i (by omega)
      clear hc HV HA hok
      have hk9 : (k : Int) ≤ cap := by omega
      by_cases hx : 1 ≤ g k ∧ g k ≤ 8
      · by_cases hno : hasP g (g k) k
        · have HNO := Lib.hid hno
          clear HS hno
          generalize g k = x at *
          go_wp2_with (first | (go_at_call 41; refine (l01In_yes _ _ _ _ (by omega)).mono ?_; rintro e w' ⟨rfl, rfl⟩) | (go_at_call 57; refine (l02Has_yes _ k g x _ HT.out HNO.out).mono ?_; rintro e w' ⟨rfl, rfl⟩))
          go_ret
          exact ⟨rfl, (Below.refl _ _).alloc (Nat.le_refl _) _⟩
        · have HNO := Lib.hid hno
          have HN : Hid (∀ i, i < k + 1 → (1 ≤ g i ∧ g i ≤ 8) ∧ ¬ hasP g (g i) i) := HS.out ⟨hx, hno⟩
          clear HS hno
          generalize hy : g k = x at c1 hx HNO
          clear hy
          go_wp2_with (first | (go_at_call 41; refine (l01In_yes _ _ _ _ (by omega)).mono ?_; rintro e w' ⟨rfl, rfl⟩) | (go_at_call 57; refine (l02Has_no _ k g x _ HT.out HNO.out).mono ?_; rintro e w' ⟨rfl, rfl⟩))
          go_round
          case rel => exact ⟨k + 1, by omega, by go_num, HN.out⟩
          case measure => simp [RowKit.intOf]; omega
      · clear HS HT
        generalize g k = x at c1 hx
        go_wp2_with (go_at_call 41; refine (l01In_no _ _ _ _ hx).mono ?_; rintro e w' ⟨rfl, rfl⟩)
        go_ret
        exact ⟨rfl, (Below.refl _ _).alloc (Nat.le_refl _) _⟩
    · obtain rfl : k = n := by omega
      exact absurd hok.out HA.out
theorem rulesOk_spec (win draw loss : Int) (ag R : Bool) (v : Value) (n : Nat) (g : Nat → Int) (w : World) (hR : R = true ↔ rulesP win draw loss n g) (h : IntRow w v n g) :
    Calls Tryd.prog 39 #[.agg #[.int .i64 win, .int .i64 draw, .int .i64 loss, v, .bool ag]] w fun e w' => e = .returned (.bool R) ∧ Below w.heap.size w w' := by
  cases R with
  | true => exact rulesOk_yes win draw loss ag v n g w h (hR.1 rfl)
  | false => exact rulesOk_no win draw loss ag v n g w h fun hp => by simpa using hR.2 hp
end Go.Proofs.YteciobkjfmddcaaDoor
set_option linter.unusedVariables false
namespace Go.Proofs.YteciobkjfmddcaaDoor
open Go.RowKit

def hasB (g : Nat → Int) (n : Nat) (x : Int) : Bool := (List.range n).any fun j => g j == x
theorem hasB_iff {g : Nat → Int} {n : Nat} {x : Int} : hasB g n x = true ↔ hasP g x n := by
  unfold hasB hasP
  simp
theorem l02Has_any (v : Value) (n : Nat) (g : Nat → Int) (x : Int) (w : World) (h : IntRow w v n g) :
    Calls Tryd.prog 57 #[v, .int .i64 x] w fun e w' => e = .returned (.bool (hasB g n x)) ∧ w = w' := by
  cases hb : hasB g n x with
  | true => exact l02Has_yes v n g x w h (hasB_iff.1 hb)
  | false => exact l02Has_no v n g x w h fun hp => by rw [hasB_iff.2 hp] at hb; cases hb
def selG (all : Bool) (gg : Nat → Int) (ng : Nat) (x : GameD) : Bool := all || (hasB gg ng x.home && hasB gg ng x.away)
def tabR (win draw loss : Int) (sel : GameD → Bool) (g : Nat → GameD) : Nat → Nat → RowD
  | 0 => fun _ => zeroR
  | k + 1 => if sel (g k) = true then addG win draw loss (tabR win draw loss sel g k) (g k) else tabR win draw loss sel g k
theorem made_rows (n : Nat) : RecCells 7 n (madeCells (Value.agg #[.int .i64 0, .int .i64 0, .int .i64 0, .int .i64 0, .int .i64 0, .int .i64 0, .int .i64 0]).cells (n * 7)).toList (fun _ => zeroR.cells) := by
  intro i hi j u hu
  have hj : j < 7 := by have := (List.getElem?_eq_some_iff.1 hu).1; simpa [RowD.cells] using this
  have hu0 : u = .int .i64 0 := by
    have : j = 0 ∨ j = 1 ∨ j = 2 ∨ j = 3 ∨ j = 4 ∨ j = 5 ∨ j = 6 := by omega
    rcases this with rfl | rfl | rfl | rfl | rfl | rfl | rfl <;> (simp [RowD.cells, zeroR] at hu; exact hu.symm)
  subst hu0
  have hlt : i * 7 + j < n * 7 := by omega
  have hz : ∀ t, t < 7 → (#[Value.int .i64 0, .int .i64 0, .int .i64 0, .int .i64 0, .int .i64 0, .int .i64 0, .int .i64 0])[t]! = Value.int .i64 0 := by
    intro t ht
    have : t = 0 ∨ t = 1 ∨ t = 2 ∨ t = 3 ∨ t = 4 ∨ t = 5 ∨ t = 6 := by omega
    rcases this with rfl | rfl | rfl | rfl | rfl | rfl | rfl <;> rfl
  have hc : (Value.agg #[.int .i64 0, .int .i64 0, .int .i64 0, .int .i64 0, .int .i64 0, .int .i64 0, .int .i64 0]).cells = #[Value.int .i64 0, .int .i64 0, .int .i64 0, .int .i64 0, .int .i64 0, .int .i64 0, .int .i64 0] := rfl
  rw [hc, Array.getElem?_toList]
  unfold madeCells
  rw [Array.getElem?_map, Array.getElem?_range, if_pos hlt]
  simp only [Option.map_some]
  exact congrArg some (hz _ (Nat.mod_lt _ (by decide)))

theorem boolEx (p : Prop) : ∃ R : Bool, R = true ↔ p := by
  by_cases h : p
  · exact ⟨true, fun _ => h, fun _ => rfl⟩
  · exact ⟨false, (fun e => by cases e), fun e => absurd e h⟩

def tabP (win draw loss : Int) (nl : Nat) (gl : Nat → Int) (n : Int) (m : Nat) (g : Nat → GameD) : Prop := rulesP win draw loss nl gl ∧ (2 ≤ n ∧ n ≤ 8) ∧ seasonP n m g
theorem made_none {w w' : World} {k : Nat} {T : TypeId} {g : Nat → List Value} (hb : Below w.heap.size w w') : RecMade k T w 0 g (.returned (.slice none 0 0)) w' :=
  ⟨_, rfl, .inl ⟨_, _, rfl, rfl⟩, ⟨_, World.ownsRow_nil _ _ _ _⟩, hb⟩

end Go.Proofs.YteciobkjfmddcaaDoor
set_option linter.unusedVariables false
namespace Go.Proofs.YteciobkjfmddcaaDoor
open Go.RowKit

theorem bytes_ne {x y : ByteArray} (h : x ≠ y) : (x.toList == y.toList) = false := by
  rw [beq_eq_false_iff_ne, ne_eq, ByteArray.toList_eq, ByteArray.toList_eq]
  exact fun e => h (ByteArray.ext (Array.toList_inj.mp e))
def teamP (t : TeamD) : Prop := nameB t.nm = true ∧ (0 ≤ t.club ∧ t.club ≤ 5) ∧ (1 ≤ t.seed ∧ t.seed ≤ 8)
theorem teamOk_yes (t : TeamD) (w : World) (hs : t.nm.size ≤ maxLen) (hp : teamP t) :
    Calls Tryd.prog 56 #[.agg #[.string t.nm, .int .i64 t.club, .int .i64 t.seed]] w fun e w' => e = .returned (.bool true) ∧ Below w.heap.size w w' := by
  obtain ⟨nm, club, seed⟩ := t
  obtain ⟨h1, h2, h3⟩ := hp
  simp only at h1 h2 h3 hs ⊢
  have H1 := Lib.hid h1
  clear h1
  go_enter Tryd.func56, Tryd.ntmps56
  go_wp2_with (first
    | (go_at_call 67; refine (isName_spec _ _ hs).mono ?_; rintro e w' ⟨rfl, rfl⟩; rw [H1.out])
    | (go_at_call 41; refine (l01In_yes _ _ _ _ (by omega)).mono ?_; rintro e w' ⟨rfl, rfl⟩))
  go_ret
  exact ⟨rfl, (Below.refl _ _).alloc (Nat.le_refl _) _⟩
theorem teamOk_no (t : TeamD) (w : World) (hs : t.nm.size ≤ maxLen) (hp : ¬ teamP t) :
    Calls Tryd.prog 56 #[.agg #[.string t.nm, .int .i64 t.club, .int .i64 t.seed]] w fun e w' => e = .returned (.bool false) ∧ Below w.heap.size w w' := by
  obtain ⟨nm, club, seed⟩ := t
  unfold teamP at hp
  simp only at hp hs ⊢
  by_cases h1 : nameB nm = true
  · have H1 := Lib.hid h1
    by_cases h2 : 0 ≤ club ∧ club ≤ 5
    · have h3 : ¬ (1 ≤ seed ∧ seed ≤ 8) := fun h3 => hp ⟨h1, h2, h3⟩
      clear h1 hp
      go_enter Tryd.func56, Tryd.ntmps56
      go_wp2_with (first
        | (go_at_call 67; refine (isName_spec _ _ hs).mono ?_; rintro e w' ⟨rfl, rfl⟩; rw [H1.out])
        | (go_at_call 41; refine (l01In_yes _ _ _ _ (by omega)).mono ?_; rintro e w' ⟨rfl, rfl⟩)
        | (go_at_call 41; refine (l01In_no _ _ _ _ (by omega)).mono ?_; rintro e w' ⟨rfl, rfl⟩))
      go_ret
      exact ⟨rfl, (Below.refl _ _).alloc (Nat.le_refl _) _⟩
    · clear h1 hp
      go_enter Tryd.func56, Tryd.ntmps56
      go_wp2_with (first
        | (go_at_call 67; refine (isName_spec _ _ hs).mono ?_; rintro e w' ⟨rfl, rfl⟩; rw [H1.out])
        | (go_at_call 41; refine (l01In_no _ _ _ _ (by omega)).mono ?_; rintro e w' ⟨rfl, rfl⟩))
      go_ret
      exact ⟨rfl, (Below.refl _ _).alloc (Nat.le_refl _) _⟩
  · have h1' : nameB nm = false := by simpa using h1
    have H1 := Lib.hid h1'
    clear h1 h1' hp
    go_enter Tryd.func56, Tryd.ntmps56
    go_wp2_with (go_at_call 67; refine (isName_spec _ _ hs).mono ?_; rintro e w' ⟨rfl, rfl⟩; rw [H1.out])
    go_ret
    exact ⟨rfl, (Below.refl _ _).alloc (Nat.le_refl _) _⟩

def namedI (g : Nat → TeamD) (x : ByteArray) : Nat → Nat → Int
  | 0, _ => -1
  | r + 1, k => if (g k).nm = x then (k : Int) else namedI g x r (k + 1)
theorem var3 {w w2 : World} {t : TypeId} {a b c : Value} (h : Below (w.alloc (.cells #[a, b, c] t)).heap.size (w.alloc (.cells #[a, b, c] t)) w2) :
    w2.cell? ⟨w.heap.size, 0, none⟩ = some a ∧ w2.cell? ⟨w.heap.size, 1, none⟩ = some b ∧ w2.cell? ⟨w.heap.size, 2, none⟩ = some c := by
  have key : ∀ (j : Nat) (u : Value), #[a, b, c][j]? = some u → w2.cell? ⟨w.heap.size, j, none⟩ = some u := by
    intro j u hu
    have h0 : (w.alloc (.cells #[a, b, c] t)).cell? ⟨w.heap.size, j, none⟩ = some u := by
      rw [cell_of_row _ w.heap.size j #[a, b, c] t (0, 0) (heap_alloc_new w _)]
      exact hu
    exact (h.cell (p := ⟨w.heap.size, j, none⟩) (World.block_lt_of_cell? _ _ h0)).trans h0
  exact ⟨key 0 a rfl, key 1 b rfl, key 2 c rfl⟩
theorem var3_below {w w2 : World} {B : Nat} {a b c : Value} (k0 : w.cell? ⟨B, 0, none⟩ = some a) (k1 : w.cell? ⟨B, 1, none⟩ = some b) (k2 : w.cell? ⟨B, 2, none⟩ = some c) (h : Below w.heap.size w w2) :
    w2.cell? ⟨B, 0, none⟩ = some a ∧ w2.cell? ⟨B, 1, none⟩ = some b ∧ w2.cell? ⟨B, 2, none⟩ = some c := by
  have hlt : B < w.heap.size := World.block_lt_of_cell? w _ k0
  exact ⟨(h.cell (p := ⟨B, 0, none⟩) hlt).trans k0, (h.cell (p := ⟨B, 1, none⟩) hlt).trans k1, (h.cell (p := ⟨B, 2, none⟩) hlt).trans k2⟩
theorem TeamRow.take {w : World} {b off cap n : Nat} {g : Nat → TeamD} (k : Nat) (hk : k ≤ n) (hn : n ≤ 9223372036854775807) (hcap : n ≤ cap)
    (h : ∀ i, i < n → w.cell? ⟨b, off + i * 3, none⟩ = some (.string (g i).nm) ∧ w.cell? ⟨b, off + i * 3 + 1, none⟩ = some (.int .i64 (g i).club) ∧ w.cell? ⟨b, off + i * 3 + 2, none⟩ = some (.int .i64 (g i).seed)) :
    TeamRow w (.slice (some ⟨b, off, none⟩) k cap) k g := by
  by_cases h0 : k = 0
  · subst h0; exact .inl ⟨_, _, rfl, rfl⟩
  · exact .inr ⟨b, off, cap, rfl, by omega, by omega, fun i hi => h i (by omega), by omega⟩
theorem TeamRow.form' {w : World} {v : Value} {n : Nat} {g : Nat → TeamD} (h : TeamRow w v n g) :
    ∃ a cap, v = .slice a n cap ∧ n ≤ 9223372036854775807 ∧ (0 < n → ∃ b off, a = some ⟨b, off, none⟩ ∧ n ≤ cap ∧
      ∀ i, i < n → w.cell? ⟨b, off + i * 3, none⟩ = some (.string (g i).nm) ∧ w.cell? ⟨b, off + i * 3 + 1, none⟩ = some (.int .i64 (g i).club) ∧ w.cell? ⟨b, off + i * 3 + 2, none⟩ = some (.int .i64 (g i).seed)) := by
  rcases h with ⟨a, cap, rfl, rfl⟩ | ⟨b, off, cap, rfl, _, hn, hc, hcap⟩
  · exact ⟨_, _, rfl, by omega, fun h => absurd h (by omega)⟩
  · exact ⟨_, _, rfl, hn, fun _ => ⟨b, off, rfl, hcap, hc⟩⟩

def freshP (g : Nat → TeamD) (i : Nat) : Prop := teamP (g i) ∧ ∀ j, j < i → (g j).nm ≠ (g i).nm ∧ (g j).seed ≠ (g i).seed
def fieldP (n : Nat) (g : Nat → TeamD) : Prop := (2 ≤ n ∧ n ≤ 8) ∧ ∀ i, i < n → freshP g i
theorem fieldOk_yes (v : Value) (n : Nat) (g : Nat → TeamD) (w : World) (h : TeamRow w v n g) (hg : ∀ i, (g i).nm.size ≤ maxLen) (hp : fieldP n g) :
    Calls Tryd.prog 38 #[v] w fun e w' => e = .returned (.bool true) ∧ Below w.heap.size w w' := by
  obtain ⟨hn8, hall⟩ := hp
  obtain ⟨a, cap, rfl, hn, hv⟩ := h.form'
  have HV := Lib.hid hv
  have HA := Lib.hid hall
  have HG := Lib.hid hg
  clear hv h hall hg
  go_enter Tryd.func38, Tryd.ntmps38
  go_wp2_with (go_at_call 41; refine (l01In_yes _ _ _ _ (by omega)).mono ?_; rintro e w' ⟨rfl, rfl⟩)
  go_loopw [13] (fun i wr => ∃ k : Nat, k ≤ n ∧ i = .int .i64 k ∧ Below w.heap.size w wr) (fun i _ => n - (RowKit.intOf i).toNat)
  case atStart => exact ⟨0, Nat.zero_le _, rfl, Below.refl _ _⟩
  case round =>
    obtain ⟨k, hk, rfl, hb⟩ := hrel
    by_cases hlt : k < n
    · obtain ⟨b, off, rfl, hcap, hc⟩ := HV.out (by omega)
      obtain ⟨c0, c1, c2⟩ := cells_below hb (hc k hlt)
      obtain ⟨hx, hno⟩ := HA.out k hlt
      have HC : Hid (∀ i, i < k → (w.cell? ⟨b, off + i * 3, none⟩ = some (.string (g i).nm) ∧ w.cell? ⟨b, off + i * 3 + 1, none⟩ = some (.int .i64 (g i).club) ∧ w.cell? ⟨b, off + i * 3 + 2, none⟩ = some (.int .i64 (g i).seed))) := fun i hi => hc i (by omega)
      have HNO := Lib.hid hno
      have HX := Lib.hid hx
      have hgk := HG.out k
      have hk9 : (k : Int) ≤ cap := by omega
      clear hc HV HA hno hx HG
      generalize hy : g k = x at c0 c1 c2 HNO HX hgk
      clear hy
      go_wp2_with (go_at_call 56; refine (teamOk_yes x _ hgk HX.out).mono ?_; rintro e w2 ⟨rfl, b2⟩; have K := Lib.hid (var3 b2); have hb2 : Below w.heap.size w w2 := (hb.alloc hb.size _).trans (b2.mono (Nat.le_trans hb.size (by simp))))
      have HB2 := Lib.hid hb2
      clear b2 hb hb2 c0 c1 c2
      generalize wr.heap.size = B at *
      go_loopw [25] (fun i wi => ∃ j : Nat, j ≤ k ∧ i = .int .i64 j ∧ Below w2.heap.size w2 wi) (fun i _ => k - (RowKit.intOf i).toNat)
      case atStart => exact ⟨0, Nat.zero_le _, rfl, Below.refl _ _⟩
      case round =>
        obtain ⟨j, hj, rfl, hbi⟩ := hrel
        obtain ⟨v0, v1, v2⟩ := K.out
        have hvb := World.block_lt_of_cell? w2 _ v0
        have v0 := (hbi.cell (p := ⟨B, 0, none⟩) hvb).trans v0
        have v2 := (hbi.cell (p := ⟨B, 2, none⟩) hvb).trans v2
        clear K v1
        by_cases hj' : j < k
        · have hbo : Below w.heap.size w wr := HB2.out.trans (hbi.mono HB2.out.size)
          obtain ⟨c0, c1, c2⟩ := cells_below hbo (HC.out j hj')
          obtain ⟨hn1, hn2⟩ := HNO.out j hj'
          have g1 : ((g j).nm.toList == x.nm.toList) = false := bytes_ne hn1
          have g2 : ((g j).seed == x.seed) = false := by simpa using hn2
          clear hn1 hn2 HC HNO hbo
          generalize g j = y at c0 c1 c2 g1 g2
          have hwb := World.block_lt_of_cell? wr _ v0
          have V0 : (wr.alloc (.cells #[.string y.nm, .int .i64 y.club, .int .i64 y.seed] 55)).cell? ⟨B, 0, none⟩ = some (.string x.nm) :=
            (((Below.refl wr.heap.size wr).alloc (Nat.le_refl _) _).cell (p := ⟨B, 0, none⟩) hwb).trans v0
          have V2 : (wr.alloc (.cells #[.string y.nm, .int .i64 y.club, .int .i64 y.seed] 55)).cell? ⟨B, 2, none⟩ = some (.int .i64 x.seed) :=
            (((Below.refl wr.heap.size wr).alloc (Nat.le_refl _) _).cell (p := ⟨B, 2, none⟩) hwb).trans v2
          clear v0 v2
          go_wp2
          go_roundw
          case rel => exact ⟨j + 1, by omega, by go_num, hbi.alloc hbi.size _⟩
          case measure => simp [RowKit.intOf]; omega
        · go_wp2
          go_roundw
          case rel => exact ⟨k + 1, by omega, by go_num, HB2.out.trans (hbi.mono HB2.out.size)⟩
          case measure => simp [RowKit.intOf]; omega
    · go_wp2
      go_ret
      exact ⟨rfl, hb⟩
theorem fieldOk_no (v : Value) (n : Nat) (g : Nat → TeamD) (w : World) (h : TeamRow w v n g) (hg : ∀ i, (g i).nm.size ≤ maxLen) (hp : ¬ fieldP n g) :
    Calls Tryd.prog 38 #[v] w fun e w' => e = .returned (.bool false) ∧ Below w.heap.size w w' := by
  obtain ⟨a, cap, rfl, hn, hv⟩ := h.form'
  have HV := Lib.hid hv
  have HG := Lib.hid hg
  clear hv h hg
  by_cases hn8 : ¬ ((2 : Int) ≤ n ∧ (n : Int) ≤ 8)
  · clear hp HV HG
    go_enter Tryd.func38, Tryd.ntmps38
    go_wp2_with (go_at_call 41; refine (l01In_no _ _ _ _ (by omega)).mono ?_; rintro e w' ⟨rfl, rfl⟩)
    go_ret
    exact ⟨rfl, Below.refl _ _⟩
  replace hn8 := Decidable.not_not.1 hn8
  have HA : Hid (¬ ∀ i, i < n → freshP g i) := fun h => hp ⟨by omega, h⟩
  clear hp
  go_enter Tryd.func38, Tryd.ntmps38
  go_wp2_with (go_at_call 41; refine (l01In_yes _ _ _ _ (by omega)).mono ?_; rintro e w' ⟨rfl, rfl⟩)
  go_loopw [13] (fun i wr => ∃ k : Nat, k ≤ n ∧ i = .int .i64 k ∧ Hid (∀ i, i < k → freshP g i) ∧ Below w.heap.size w wr) (fun i _ => n - (RowKit.intOf i).toNat)
  case atStart => exact ⟨0, Nat.zero_le _, rfl, fun i hi => absurd hi (by omega), Below.refl _ _⟩
  case round =>
    obtain ⟨k, hk, rfl, hf, hb⟩ := hrel
    by_cases hlt : k < n
    · obtain ⟨b, off, rfl, hcap, hc⟩ := HV.out (by omega)
      obtain ⟨c0, c1, c2⟩ := cells_below hb (hc k hlt)
      have HC : Hid (∀ i, i < k → (w.cell? ⟨b, off + i * 3, none⟩ = some (.string (g i).nm) ∧ w.cell? ⟨b, off + i * 3 + 1, none⟩ = some (.int .i64 (g i).club) ∧ w.cell? ⟨b, off + i * 3 + 2, none⟩ = some (.int .i64 (g i).seed))) := fun i hi => hc i (by omega)
      have HS : Hid (freshP g k → ∀ i, i < k + 1 → freshP g i) := fun h i hi => by
        by_cases hik : i = k
        · subst hik; exact h
        · exact hf.out i (by omega)
      have hgk := HG.out k
      have hk9 : (k : Int) ≤ cap := by omega
      clear hc HV HA HG hf
      by_cases hx : ¬ teamP (g k)
      · have HX := Lib.hid hx
        clear hx HC HS
        generalize g k = x at *
        go_wp2_with (go_at_call 56; refine (teamOk_no x _ hgk HX.out).mono ?_; rintro e w2 ⟨rfl, b2⟩; have hb2 : Below w.heap.size w w2 := (hb.alloc hb.size _).trans (b2.mono (Nat.le_trans hb.size (by simp))))
        go_ret
        exact ⟨rfl, hb2⟩
      replace hx := Classical.not_not.1 hx
      have HX := Lib.hid hx
      have HF : Hid ((∀ j, j < k → (g j).nm ≠ (g k).nm ∧ (g j).seed ≠ (g k).seed) → ∀ i, i < k + 1 → freshP g i) := fun h => HS.out ⟨HX.out, h⟩
      clear hx HS
      have HY : Hid (g k = g k) := rfl
      generalize hy : g k = x at c0 c1 c2 HX hgk
      have HE := Lib.hid hy
      clear hy HY
      go_wp2_with (go_at_call 56; refine (teamOk_yes x _ hgk HX.out).mono ?_; rintro e w2 ⟨rfl, b2⟩; have K := Lib.hid (var3 b2); have hb2 : Below w.heap.size w w2 := (hb.alloc hb.size _).trans (b2.mono (Nat.le_trans hb.size (by simp))))
      have HB2 := Lib.hid hb2
      clear b2 hb hb2 c0 c1 c2
      generalize wr.heap.size = B at *
      go_loopw [25] (fun i wi => ∃ j : Nat, j ≤ k ∧ i = .int .i64 j ∧ Hid (∀ t, t < j → (g t).nm ≠ x.nm ∧ (g t).seed ≠ x.seed) ∧ Below w2.heap.size w2 wi) (fun i _ => k - (RowKit.intOf i).toNat)
      case atStart => exact ⟨0, Nat.zero_le _, rfl, fun i hi => absurd hi (by omega), Below.refl _ _⟩
      case round =>
        obtain ⟨j, hj, rfl, hfi, hbi⟩ := hrel
        obtain ⟨v0, v1, v2⟩ := K.out
        have hvb := World.block_lt_of_cell? w2 _ v0
        have v0 := (hbi.cell (p := ⟨B, 0, none⟩) hvb).trans v0
        have v2 := (hbi.cell (p := ⟨B, 2, none⟩) hvb).trans v2
        clear K v1
        have HBO := Lib.hid (HB2.out.trans (hbi.mono HB2.out.size))
        by_cases hj' : j < k
        · obtain ⟨c0, c1, c2⟩ := cells_below HBO.out (HC.out j hj')
          have HN : Hid ((g j).nm ≠ x.nm → (g j).seed ≠ x.seed → ∀ t, t < j + 1 → (g t).nm ≠ x.nm ∧ (g t).seed ≠ x.seed) := fun h1 h2 t ht => by
            by_cases htj : t = j
            · subst htj; exact ⟨h1, h2⟩
            · exact hfi.out t (by omega)
          have hwb := World.block_lt_of_cell? wr _ v0
          have V0 : ∀ y : TeamD, Hid ((wr.alloc (.cells #[.string y.nm, .int .i64 y.club, .int .i64 y.seed] 55)).cell? ⟨B, 0, none⟩ = some (.string x.nm)) := fun y =>
            (((Below.refl wr.heap.size wr).alloc (Nat.le_refl _) _).cell (p := ⟨B, 0, none⟩) hwb).trans v0
          have V2 : ∀ y : TeamD, Hid ((wr.alloc (.cells #[.string y.nm, .int .i64 y.club, .int .i64 y.seed] 55)).cell? ⟨B, 2, none⟩ = some (.int .i64 x.seed)) := fun y =>
            (((Below.refl wr.heap.size wr).alloc (Nat.le_refl _) _).cell (p := ⟨B, 2, none⟩) hwb).trans v2
          have V0 := (V0 (g j)).out
          have V2 := (V2 (g j)).out
          clear v0 v2 HC HF HE hfi
          by_cases h1 : (g j).nm = x.nm
          · rw [h1] at c0
            clear HN
            generalize g j = y at *
            rw [h1] at V0 V2
            clear h1
            go_wp2
            go_ret
            exact ⟨rfl, HBO.out.alloc HBO.out.size _⟩
          · have g1 : ((g j).nm.toList == x.nm.toList) = false := bytes_ne h1
            by_cases h2 : (g j).seed = x.seed
            · clear HN h1
              generalize g j = y at *
              have g2 : (y.seed == x.seed) = true := by simpa using h2
              clear h2
              go_wp2
              go_ret
              exact ⟨rfl, HBO.out.alloc HBO.out.size _⟩
            · have g2 : ((g j).seed == x.seed) = false := by simpa using h2
              have HN2 := Lib.hid (HN.out h1 h2)
              clear h1 h2 HN
              generalize g j = y at c0 c1 c2 g1 g2 V0 V2
              go_wp2
              go_roundw
              case rel => exact ⟨j + 1, by omega, by go_num, HN2.out, hbi.alloc hbi.size _⟩
              case measure => simp [RowKit.intOf]; omega
        · obtain rfl : j = k := by omega
          have HF2 : Hid (∀ i, i < j + 1 → freshP g i) := HF.out (by rw [HE.out]; exact hfi.out)
          clear HF hfi HE v0 v2
          go_wp2
          go_roundw
          case rel => exact ⟨j + 1, by omega, by go_num, HF2.out, HBO.out⟩
          case measure => simp [RowKit.intOf]; omega
    · obtain rfl : k = n := by omega
      exact absurd hf.out HA.out
end Go.Proofs.YteciobkjfmddcaaDoor
set_option linter.unusedVariables false
namespace Go.Proofs.YteciobkjfmddcaaDoor
open Go.RowKit

def NumsMade (w : World) (L : List Int) (e : Ending) (w' : World) : Prop :=
  ∃ v, e = .returned v ∧ w'.ownsRow w.heap.size 3 1 v L.length (L.map (Value.int .i64)) ∧ Below w.heap.size w w'
def selL (f : Nat → Int) (c : Int) : Nat → List Int
  | 0 => []
  | k + 1 => selL f c k ++ if f k = c then [(k : Int)] else []
theorem selL_yes {f : Nat → Int} {c : Int} {k : Nat} (h : f k = c) : selL f c (k + 1) = selL f c k ++ [(k : Int)] := by simp [selL, h]
theorem selL_no {f : Nat → Int} {c : Int} {k : Nat} (h : f k ≠ c) : selL f c (k + 1) = selL f c k := by simp [selL, h]
theorem selL_len (f : Nat → Int) (c : Int) : ∀ k, (selL f c k).length ≤ k
  | 0 => Nat.le_refl _
  | k + 1 => by
    have := selL_len f c k
    by_cases h : f k = c
    · rw [selL_yes h]; simp; omega
    · rw [selL_no h]; omega

def seedsL (f : Nat → Int) (n : Nat) : Nat → List Int
  | 0 => []
  | s + 1 => seedsL f n s ++ selL f ((s : Int) + 1) n
def clubsN (g : Nat → TeamD) (n : Nat) : Nat → Nat
  | 0 => 0
  | c + 1 => clubsN g n c + if 0 < (selL (fun i => (g i).club) (c : Int) n).length then 1 else 0
theorem clubsN_le (g : Nat → TeamD) (n : Nat) : ∀ c, clubsN g n c ≤ c
  | 0 => Nat.le_refl _
  | c + 1 => by
    have := clubsN_le g n c
    unfold clubsN
    split <;> omega
theorem TeamRow.below {w w' : World} {B : Nat} {v : Value} {n : Nat} {g : Nat → TeamD} (h : TeamRow w v n g) (hb : Below B w w') (hB : w.heap.size ≤ B) : TeamRow w' v n g := by
  rcases h with h | ⟨b, off, cap, h1, h0, h2, h3, h4⟩
  · exact .inl h
  · refine .inr ⟨b, off, cap, h1, h0, h2, fun i hi => ?_, h4⟩
    obtain ⟨k0, k1, k2⟩ := h3 i hi
    have hlt := Nat.lt_of_lt_of_le (World.block_lt_of_cell? w _ k0) hB
    exact ⟨(hb.cell (p := ⟨b, off + i * 3, none⟩) hlt).trans k0, (hb.cell (p := ⟨b, off + i * 3 + 1, none⟩) hlt).trans k1, (hb.cell (p := ⟨b, off + i * 3 + 2, none⟩) hlt).trans k2⟩
theorem TeamRow.drewN {w : World} {v : Value} {n q : Nat} {g : Nat → TeamD} (h : TeamRow w v n g) : TeamRow (w.drewN q) v n g := by
  rcases h with h | ⟨b, off, cap, h1, h0, h2, h3, h4⟩
  · exact .inl h
  · exact .inr ⟨b, off, cap, h1, h0, h2, fun i hi => by simp only [World.cell?_drewN]; exact h3 i hi, h4⟩
theorem NumsMade.form {w w' : World} {L : List Int} {e : Ending} (h : NumsMade w L e w') :
    ∃ a cap, e = .returned (.slice a L.length cap) ∧ w'.ownsRow w.heap.size 3 1 (.slice a L.length cap) L.length (L.map (Value.int .i64)) ∧ Below w.heap.size w w' := by
  obtain ⟨v, rfl, hown, hb⟩ := h
  rcases hown.2 with ⟨rfl, h0⟩ | ⟨g, cap, cur, rfl, _⟩
  · cases L with
    | nil => exact ⟨_, _, rfl, hown, hb⟩
    | cons => simp at h0
  · exact ⟨_, _, rfl, hown, hb⟩
theorem seedsL_len (f : Nat → Int) (n : Nat) : ∀ s, (seedsL f n s).length ≤ s * n
  | 0 => by simp [seedsL]
  | s + 1 => by
    have h1 := seedsL_len f n s
    have h2 := selL_len f ((s : Int) + 1) n
    unfold seedsL
    rw [List.length_append, Nat.succ_mul]
    omega
end Go.Proofs.YteciobkjfmddcaaDoor
set_option linter.unusedVariables false
namespace Go.Proofs.YteciobkjfmddcaaDoor
open Go.RowKit

structure BookD where
  nf : Nat
  f : Nat → TeamD
  win : Int
  draw : Int
  loss : Int
  nl : Nat
  l : Nat → Int
  again : Bool
  m : Nat
  g : Nat → GameD
  nfa : Nat
  fa : Nat → Int
  nta : Nat
  ta : Nat → Int
def BookRow (w : World) (vf vl vg vfa vta : Value) (b : BookD) : Prop :=
  TeamRow w vf b.nf b.f ∧ IntRow w vl b.nl b.l ∧ GameRow w vg b.m b.g ∧ IntRow w vfa b.nfa b.fa ∧ IntRow w vta b.nta b.ta
theorem BookRow.below {w w' : World} {B : Nat} {vf vl vg vfa vta : Value} {b : BookD} (h : BookRow w vf vl vg vfa vta b) (hb : Below B w w') (hB : w.heap.size ≤ B) : BookRow w' vf vl vg vfa vta b :=
  ⟨h.1.below hb hB, h.2.1.below hb hB, h.2.2.1.below hb hB, h.2.2.2.1.below hb hB, h.2.2.2.2.below hb hB⟩
theorem BookRow.form {w : World} {vf vl vg vfa vta : Value} {b : BookD} (h : BookRow w vf vl vg vfa vta b) :
    ∃ fa fc la lc ga gc qa qc ta tc, vf = .slice fa b.nf fc ∧ vl = .slice la b.nl lc ∧ vg = .slice ga b.m gc ∧ vfa = .slice qa b.nfa qc ∧ vta = .slice ta b.nta tc := by
  obtain ⟨fa, fc, h1, _⟩ := h.1.form
  obtain ⟨la, lc, h2, _⟩ := h.2.1.form
  obtain ⟨ga, gc, h3, _⟩ := h.2.2.1.form
  obtain ⟨qa, qc, h4, _⟩ := h.2.2.2.1.form
  obtain ⟨ta, tc, h5, _⟩ := h.2.2.2.2.form
  exact ⟨fa, fc, la, lc, ga, gc, qa, qc, ta, tc, h1, h2, h3, h4, h5⟩
def pensP (b : BookD) (i : Nat) : Prop := (0 ≤ b.fa i ∧ b.fa i ≤ 1000) ∧ (0 ≤ b.ta i ∧ b.ta i ≤ 1000)
def bookP (b : BookD) : Prop := fieldP b.nf b.f ∧ rulesP b.win b.draw b.loss b.nl b.l ∧ seasonP b.nf b.m b.g ∧ b.nfa = b.nf ∧ b.nta = b.nf ∧ ∀ i, i < b.nf → pensP b i
theorem fieldOk_spec (v : Value) (n : Nat) (g : Nat → TeamD) (R : Bool) (w : World) (h : TeamRow w v n g) (hg : ∀ i, (g i).nm.size ≤ maxLen) (hR : R = true ↔ fieldP n g) :
    Calls Tryd.prog 38 #[v] w fun e w' => e = .returned (.bool R) ∧ Below w.heap.size w w' := by
  cases R with
  | true => exact (fieldOk_yes v n g w h hg (hR.1 rfl)).mono fun e w' h => ⟨h.1, by first | exact h.2 | (obtain ⟨q, rfl⟩ := h.2; exact below_drewN (Below.refl _ _) q) | (rw [← h.2]; exact Below.refl _ _)⟩
  | false => exact (fieldOk_no v n g w h hg fun hp => by have := hR.2 hp; cases this).mono fun e w' h => ⟨h.1, by first | exact h.2 | (obtain ⟨q, rfl⟩ := h.2; exact below_drewN (Below.refl _ _) q) | (rw [← h.2]; exact Below.refl _ _)⟩

theorem int_at {w : World} {a : Option Addr} {n c k : Nat} {g : Nat → Int} (h : IntRow w (.slice a n c) n g) (hk : k < n) : ∃ bo off, a = some ⟨bo, off, none⟩ ∧ n ≤ c ∧ w.cell? ⟨bo, off + k, none⟩ = some (.int .i64 (g k)) := by
  rcases h with ⟨_, _, _, h1⟩ | ⟨b', off, c', he, _, h3, hc, _⟩
  · omega
  · simp only [Value.slice.injEq, true_and] at he
    obtain ⟨rfl, rfl⟩ := he
    exact ⟨b', off, rfl, by omega, hc k hk⟩

set_option maxRecDepth 100000 in
set_option maxHeartbeats 2000000 in
theorem bookOk_spec (vf vl vg vfa vta : Value) (b : BookD) (R : Bool) (w : World) (hR : R = true ↔ bookP b) (h : BookRow w vf vl vg vfa vta b) (hs : ∀ i, (b.f i).nm.size ≤ maxLen) :
    Calls Tryd.prog 16 #[.agg #[vf, .int .i64 b.win, .int .i64 b.draw, .int .i64 b.loss, vl, .bool b.again, vg, vfa, vta]] w fun e w' => e = .returned (.bool R) ∧ Below w.heap.size w w' := by
  obtain ⟨fa, fc, la, lc, ga, gc, qa, qc, ta, tc, rfl, rfl, rfl, rfl, rfl⟩ := h.form
  obtain ⟨r1, hr1⟩ := boolEx (fieldP b.nf b.f)
  obtain ⟨r2, hr2⟩ := boolEx (rulesP b.win b.draw b.loss b.nl b.l)
  obtain ⟨r3, hr3⟩ := boolEx (seasonP b.nf b.m b.g)
  have C1 := Lib.hid (fun w1 h1 => fieldOk_spec (.slice fa b.nf fc) b.nf b.f r1 w1 h1 hs hr1)
  have C2 := Lib.hid (fun w1 h1 => rulesOk_spec b.win b.draw b.loss b.again r2 (.slice la b.nl lc) b.nl b.l w1 hr2 h1)
  have C3 := Lib.hid (fun w1 h1 => seasonOk_spec b.nf (.slice ga b.m gc) b.m b.g r3 w1 hr3 h1)
  have hall : R = true ↔ (r1 = true ∧ r2 = true ∧ r3 = true ∧ b.nfa = b.nf ∧ b.nta = b.nf ∧ ∀ i, i < b.nf → pensP b i) := by rw [hR, hr1, hr2, hr3]; exact Iff.rfl
  have HN := Lib.hid (boolF hall)
  have HY := Lib.hid (boolT hall)
  have b0 := (Below.refl w.heap.size w).alloc (Nat.le_refl _) (.cells #[.slice fa b.nf fc, .int .i64 b.win, .int .i64 b.draw, .int .i64 b.loss, .slice la b.nl lc, .bool b.again, .slice ga b.m gc, .slice qa b.nfa qc, .slice ta b.nta tc] 38)
  have BX0 := Lib.hid (BoxN.made (Below.refl (w.alloc (.cells #[.slice fa b.nf fc, .int .i64 b.win, .int .i64 b.draw, .int .i64 b.loss, .slice la b.nl lc, .bool b.again, .slice ga b.m gc, .slice qa b.nfa qc, .slice ta b.nta tc] 38)).heap.size (w.alloc (.cells #[.slice fa b.nf fc, .int .i64 b.win, .int .i64 b.draw, .int .i64 b.loss, .slice la b.nl lc, .bool b.again, .slice ga b.m gc, .slice qa b.nfa qc, .slice ta b.nta tc] 38))) (B := w.heap.size) rfl)
  have BR0 := Lib.hid (h.below b0 (Nat.le_refl _))
  have HB0 := Lib.hid b0
  have hn64 : (b.nf : Int) ≤ 9223372036854775807 := by obtain ⟨_, _, _, hq, _⟩ := h.1.form; omega
  clear hR hr1 hr2 hr3 hall h b0 hs
  have d0 := BX0.out.2 0 _ rfl
  have d1 := BX0.out.2 1 _ rfl
  have d2 := BX0.out.2 2 _ rfl
  have d3 := BX0.out.2 3 _ rfl
  have d4 := BX0.out.2 4 _ rfl
  have d5 := BX0.out.2 5 _ rfl
  have d6 := BX0.out.2 6 _ rfl
  have d7 := BX0.out.2 7 _ rfl
  have d8 := BX0.out.2 8 _ rfl
  go_enter Tryd.func16, Tryd.ntmps16
  cases r1 with
  | false =>
    obtain rfl := HN.out fun h => by have := h.1; cases this
    clear HN HY
    go_wp2_with fail
    refine (C1.out _ BR0.out.1).mono ?_
    rintro e w1 ⟨rfl, b1⟩
    have BX1 := Lib.hid (BoxN.below BX0.out b1)
    have BR1 := Lib.hid (BR0.out.below b1 (Nat.le_refl _))
    have HB1 := Lib.hid (HB0.out.trans (b1.mono HB0.out.size))
    clear d0 d1 d2 d3 d4 d5 d6 d7 d8 BX0 BR0 HB0 b1
    have d0 := BX1.out.2 0 _ rfl
    have d1 := BX1.out.2 1 _ rfl
    have d2 := BX1.out.2 2 _ rfl
    have d3 := BX1.out.2 3 _ rfl
    have d4 := BX1.out.2 4 _ rfl
    have d5 := BX1.out.2 5 _ rfl
    have d6 := BX1.out.2 6 _ rfl
    have d7 := BX1.out.2 7 _ rfl
    have d8 := BX1.out.2 8 _ rfl
    go_wp2
    go_ret
    exact ⟨rfl, HB1.out⟩
  | true =>
  go_wp2_with fail
  refine (C1.out _ BR0.out.1).mono ?_
  rintro e w1 ⟨rfl, b1⟩
  have BX1 := Lib.hid (BoxN.below BX0.out b1)
  have BR1 := Lib.hid (BR0.out.below b1 (Nat.le_refl _))
  have HB1 := Lib.hid (HB0.out.trans (b1.mono HB0.out.size))
  clear d0 d1 d2 d3 d4 d5 d6 d7 d8 BX0 BR0 HB0 b1
  have d0 := BX1.out.2 0 _ rfl
  have d1 := BX1.out.2 1 _ rfl
  have d2 := BX1.out.2 2 _ rfl
  have d3 := BX1.out.2 3 _ rfl
  have d4 := BX1.out.2 4 _ rfl
  have d5 := BX1.out.2 5 _ rfl
  have d6 := BX1.out.2 6 _ rfl
  have d7 := BX1.out.2 7 _ rfl
  have d8 := BX1.out.2 8 _ rfl
  cases r2 with
  | false =>
    obtain rfl := HN.out fun h => by have := h.2.1; cases this
    clear HN HY
    go_wp2_with fail
    refine (C2.out _ BR1.out.2.1).mono ?_
    rintro e w2 ⟨rfl, b2⟩
    have BX2 := Lib.hid (BoxN.below BX1.out b2)
    have BR2 := Lib.hid (BR1.out.below b2 (Nat.le_refl _))
    have HB2 := Lib.hid (HB1.out.trans (b2.mono HB1.out.size))
    clear d0 d1 d2 d3 d4 d5 d6 d7 d8 BX1 BR1 HB1 b2
    have d0 := BX2.out.2 0 _ rfl
    have d1 := BX2.out.2 1 _ rfl
    have d2 := BX2.out.2 2 _ rfl
    have d3 := BX2.out.2 3 _ rfl
    have d4 := BX2.out.2 4 _ rfl
    have d5 := BX2.out.2 5 _ rfl
    have d6 := BX2.out.2 6 _ rfl
    have d7 := BX2.out.2 7 _ rfl
    have d8 := BX2.out.2 8 _ rfl
    go_wp2
    go_ret
    exact ⟨rfl, HB2.out⟩
  | true =>
  go_wp2_with fail
  refine (C2.out _ BR1.out.2.1).mono ?_
  rintro e w2 ⟨rfl, b2⟩
  have BX2 := Lib.hid (BoxN.below BX1.out b2)
  have BR2 := Lib.hid (BR1.out.below b2 (Nat.le_refl _))
  have HB2 := Lib.hid (HB1.out.trans (b2.mono HB1.out.size))
  clear d0 d1 d2 d3 d4 d5 d6 d7 d8 BX1 BR1 HB1 b2
  have d0 := BX2.out.2 0 _ rfl
  have d1 := BX2.out.2 1 _ rfl
  have d2 := BX2.out.2 2 _ rfl
  have d3 := BX2.out.2 3 _ rfl
  have d4 := BX2.out.2 4 _ rfl
  have d5 := BX2.out.2 5 _ rfl
  have d6 := BX2.out.2 6 _ rfl
  have d7 := BX2.out.2 7 _ rfl
  have d8 := BX2.out.2 8 _ rfl
  cases r3 with
  | false =>
    obtain rfl := HN.out fun h => by have := h.2.2.1; cases this
    clear HN HY
    go_wp2_with fail
    refine (C3.out _ BR2.out.2.2.1).mono ?_
    rintro e w3 ⟨rfl, b3⟩
    have BX3 := Lib.hid (BoxN.below BX2.out b3)
    have BR3 := Lib.hid (BR2.out.below b3 (Nat.le_refl _))
    have HB3 := Lib.hid (HB2.out.trans (b3.mono HB2.out.size))
    clear d0 d1 d2 d3 d4 d5 d6 d7 d8 BX2 BR2 HB2 b3
    have d0 := BX3.out.2 0 _ rfl
    have d1 := BX3.out.2 1 _ rfl
    have d2 := BX3.out.2 2 _ rfl
    have d3 := BX3.out.2 3 _ rfl
    have d4 := BX3.out.2 4 _ rfl
    have d5 := BX3.out.2 5 _ rfl
    have d6 := BX3.out.2 6 _ rfl
    have d7 := BX3.out.2 7 _ rfl
    have d8 := BX3.out.2 8 _ rfl
    go_wp2
    go_ret
    exact ⟨rfl, HB3.out⟩
  | true =>
  go_wp2_with fail
  refine (C3.out _ BR2.out.2.2.1).mono ?_
  rintro e w3 ⟨rfl, b3⟩
  have BX3 := Lib.hid (BoxN.below BX2.out b3)
  have BR3 := Lib.hid (BR2.out.below b3 (Nat.le_refl _))
  have HB3 := Lib.hid (HB2.out.trans (b3.mono HB2.out.size))
  clear d0 d1 d2 d3 d4 d5 d6 d7 d8 BX2 BR2 HB2 b3
  have d0 := BX3.out.2 0 _ rfl
  have d1 := BX3.out.2 1 _ rfl
  have d2 := BX3.out.2 2 _ rfl
  have d3 := BX3.out.2 3 _ rfl
  have d4 := BX3.out.2 4 _ rfl
  have d5 := BX3.out.2 5 _ rfl
  have d6 := BX3.out.2 6 _ rfl
  have d7 := BX3.out.2 7 _ rfl
  have d8 := BX3.out.2 8 _ rfl
  by_cases h4 : b.nfa = b.nf
  case neg =>
    obtain rfl := HN.out fun h => h4 h.2.2.2.1
    have g1 : ((b.nfa : Int) == b.nf) = false := beq_eq_false_iff_ne.2 (by omega)
    have g2 : ((b.nfa : Int) != b.nf) = true := by unfold bne; rw [g1]; rfl
    clear HN HY h4
    go_wp2
    go_ret
    exact ⟨rfl, HB3.out⟩
  by_cases h5 : b.nta = b.nf
  case neg =>
    obtain rfl := HN.out fun h => h5 h.2.2.2.2.1
    have g1 : ((b.nfa : Int) == b.nf) = true := beq_iff_eq.2 (by omega)
    have g2 : ((b.nfa : Int) != b.nf) = false := by unfold bne; rw [g1]; rfl
    have g3 : ((b.nta : Int) == b.nf) = false := beq_eq_false_iff_ne.2 (by omega)
    have g4 : ((b.nta : Int) != b.nf) = true := by unfold bne; rw [g3]; rfl
    have H4 := Lib.hid h4
    clear HN HY h5 h4
    go_wp2
    go_ret
    exact ⟨rfl, HB3.out⟩
  have g1 : ((b.nfa : Int) == b.nf) = true := beq_iff_eq.2 (by omega)
  have g2 : ((b.nfa : Int) != b.nf) = false := by unfold bne; rw [g1]; rfl
  have g3 : ((b.nta : Int) == b.nf) = true := beq_iff_eq.2 (by omega)
  have g4 : ((b.nta : Int) != b.nf) = false := by unfold bne; rw [g3]; rfl
  have HN2 : Hid (∀ k, k < b.nf → ¬ pensP b k → R = false) := fun k hk h => HN.out fun hp => h (hp.2.2.2.2.2 k hk)
  have HY2 : Hid ((∀ i, i < b.nf → pensP b i) → R = true) := fun h => HY.out ⟨by first | rfl | trivial, by first | rfl | trivial, by first | rfl | trivial, h4, h5, h⟩
  have H4 := Lib.hid h4
  have H5 := Lib.hid h5
  clear HN HY h4 h5 C1 C2 C3
  go_wp2
  clear g1 g2 g3 g4 d0 d1 d2 d3 d4 d5 d6 d7 d8
  go_loopw [42] (fun i wr => ∃ k : Nat, k ≤ b.nf ∧ i = .int .i64 k ∧ Hid (∀ i, i < k → pensP b i) ∧ Hid (BoxN wr w.heap.size [.slice fa b.nf fc, .int .i64 b.win, .int .i64 b.draw, .int .i64 b.loss, .slice la b.nl lc, .bool b.again, .slice ga b.m gc, .slice qa b.nfa qc, .slice ta b.nta tc]) ∧ Hid (BookRow wr (.slice fa b.nf fc) (.slice la b.nl lc) (.slice ga b.m gc) (.slice qa b.nfa qc) (.slice ta b.nta tc) b) ∧ Hid (Below w.heap.size w wr)) (fun i _ => b.nf - (RowKit.intOf i).toNat)
  case atStart => exact ⟨0, Nat.zero_le _, rfl, fun i hi => absurd hi (by omega), BX3, BR3, HB3⟩
  case round =>
    clear BX3 BR3 HB3
    obtain ⟨k, hk, rfl, hok, BX, BR, HB⟩ := hrel
    by_cases hlt : k < b.nf
    · have hc1 : wr.cell? ⟨w.heap.size, 7, none⟩ = some (.slice qa b.nfa qc) := BX.out.2 7 _ rfl
      have hc2 : wr.cell? ⟨w.heap.size, 8, none⟩ = some (.slice ta b.nta tc) := BX.out.2 8 _ rfl
      obtain ⟨q1, p1, rfl, hcq, u1⟩ : ∃ bo off, qa = some ⟨bo, off, none⟩ ∧ b.nfa ≤ qc ∧ wr.cell? ⟨bo, off + k, none⟩ = some (.int .i64 (b.fa k)) := int_at BR.out.2.2.2.1 (by have := H4.out; omega)
      obtain ⟨q2, p2, rfl, hct, u2⟩ : ∃ bo off, ta = some ⟨bo, off, none⟩ ∧ b.nta ≤ tc ∧ wr.cell? ⟨bo, off + k, none⟩ = some (.int .i64 (b.ta k)) := int_at BR.out.2.2.2.2 (by have := H5.out; omega)
      have e1 : (k : Int) < b.nfa := by have := H4.out; omega
      have e2 : (k : Int) < b.nta := by have := H5.out; omega
      have e3 : k < b.nfa := by omega
      have e4 : k < b.nta := by omega
      have hS : Hid (pensP b k → ∀ i, i < k + 1 → pensP b i) := fun h i hi => by
        by_cases hik : i = k
        · subst hik; exact h
        · exact hok.out i (by omega)
      have HNk := Lib.hid (HN2.out k hlt)
      clear HN2 HY2 hok
      by_cases hf : 0 ≤ b.fa k ∧ b.fa k ≤ 1000
      case neg =>
        obtain rfl := HNk.out fun h => hf h.1
        clear HNk hS
        go_wp2_with (go_at_call 41; refine (l01In_no _ _ _ _ hf).mono ?_; rintro e w2 ⟨rfl, rfl⟩)
        go_ret
        exact ⟨rfl, HB.out⟩
      by_cases ht : 0 ≤ b.ta k ∧ b.ta k ≤ 1000
      case neg =>
        obtain rfl := HNk.out fun h => ht h.2
        clear HNk hS
        go_wp2_with fail
        refine (l01In_yes _ _ _ _ hf).mono ?_
        rintro e w2 ⟨rfl, rfl⟩
        go_wp2_with fail
        refine (l01In_no _ _ _ _ ht).mono ?_
        rintro e w2 ⟨rfl, rfl⟩
        go_wp2
        go_ret
        exact ⟨rfl, HB.out⟩
      have HSk := Lib.hid (hS.out ⟨hf, ht⟩)
      clear HNk hS
      go_wp2_with fail
      refine (l01In_yes _ _ _ _ hf).mono ?_
      rintro e w2 ⟨rfl, rfl⟩
      go_wp2_with fail
      refine (l01In_yes _ _ _ _ ht).mono ?_
      rintro e w2 ⟨rfl, rfl⟩
      go_wp2
      go_roundw
      case rel => exact ⟨k + 1, by omega, by go_num, HSk.out, BX, BR, HB⟩
      case measure => simp [RowKit.intOf]; omega
    · obtain rfl : b.nf = k := by omega
      obtain rfl := HY2.out hok.out
      clear HN2 HY2 hok
      go_wp2
      go_ret
      exact ⟨rfl, HB.out⟩
end Go.Proofs.YteciobkjfmddcaaDoor
set_option linter.unusedVariables false
namespace Go.Proofs.YteciobkjfmddcaaDoor
open Go.RowKit

def bookOf (xw xd xl : Int) (xa : Bool) (d : tBook.D) : BookD :=
  ⟨List.length (α := tTeam.D) d.1, atTeam d.1, xw, xd, xl, List.length (α := Int) d.2.1.2.2.2.1, getI d.2.1.2.2.2.1, xa, List.length (α := tGame.D) d.2.2.1, atGame d.2.2.1, List.length (α := Int) d.2.2.2.1, getI d.2.2.2.1, List.length (α := Int) d.2.2.2.2, getI d.2.2.2.2⟩
theorem bookRow {w : World} {vf vl vg vfa vta : Value} {xw xd xl : Int} {xa : Bool} {d : tBook.D} (h : RdA tBook w [vf, .int .i64 xw, .int .i64 xd, .int .i64 xl, vl, .bool xa, vg, vfa, vta] d) : BookRow w vf vl vg vfa vta (bookOf xw xd xl xa d) := by
  have h0 : RdA tTeamS w [vf] d.1 := (rd_split h).1
  have t0 := (rd_split h).2
  have h1 : RdA tRules w [.int .i64 xw, .int .i64 xd, .int .i64 xl, vl, .bool xa] d.2.1 := (rd_split t0).1
  have t1 := (rd_split t0).2
  have h2 : RdA tGameS w [vg] d.2.2.1 := (rd_split t1).1
  have t2 := (rd_split t1).2
  have h3 : RdA tIntS w [vfa] d.2.2.2.1 := (rd_split t2).1
  have h4 : RdA tIntS w [vta] d.2.2.2.2 := (rd_split t2).2
  have u0 := (rd_split h1).2
  have u1 := (rd_split u0).2
  have u2 := (rd_split u1).2
  have u3 : RdA tIntS w [vl] d.2.1.2.2.2.1 := (rd_split u2).1
  exact ⟨rd_TeamS.1 h0, rd_IntS.1 u3, rd_GameS.1 h2, rd_IntS.1 h3, rd_IntS.1 h4⟩
theorem bookNames {xw xd xl : Int} {xa : Bool} {d : tBook.D} (h : tBook.fit d) (i : Nat) : ((bookOf xw xd xl xa d).f i).nm.size ≤ maxLen := atTeam_size h.1 i
theorem book_nf {xw xd xl : Int} {xa : Bool} {d : tBook.D} (h : tBook.wt d ≤ 1048576) : (bookOf xw xd xl xa d).nf ≤ 1048576 := by
  have e : tBook.wt d = tTeamS.wt d.1 + (tRules.wt d.2.1 + (tGameS.wt d.2.2.1 + (tIntS.wt d.2.2.2.1 + tIntS.wt d.2.2.2.2))) := rfl
  have e2 := wt_TeamS d.1
  have e3 : (bookOf xw xd xl xa d).nf = List.length (α := tTeam.D) d.1 := rfl
  omega
theorem ints_of {w : World} {v : Value} {d : tIntS.D} (h : RdA tIntS w [v] d) : IntRow w v (List.length (α := Int) d) (getI d) := rd_IntS.1 h
theorem ints_n {d : tIntS.D} (h : tIntS.wt d ≤ 1048576) : List.length (α := Int) d ≤ 1048576 := by
  have := wt_IntS d
  omega
end Go.Proofs.YteciobkjfmddcaaDoor
set_option linter.unusedVariables false
namespace Go.Proofs.YteciobkjfmddcaaDoor
open Go.RowKit

theorem rsn_ints {w : World} {k f o : Int} {v : Value} {d : tReason.D} (h : RdA tReason w [.int .i64 k, v, .int .i64 f, .int .i64 o] d) : IntRow w v (List.length (α := Int) d.2.1) (getI d.2.1) := by
  have t0 := (rd_split h).2
  have h1 : RdA tIntS w [v] d.2.1 := (rd_split t0).1
  exact rd_IntS.1 h1
theorem rsn_key {w : World} {k f o : Int} {v : Value} {d : tReason.D} (h : RdA tReason w [.int .i64 k, v, .int .i64 f, .int .i64 o] d) (hf : tReason.fit d) : IntFit f ∧ IntFit o := by
  have t0 := (rd_split h).2
  have t1 := (rd_split t0).2
  have h2 : RdA tInt w [.int .i64 f] d.2.2.1 := (rd_split t1).1
  have h3 : RdA tInt w [.int .i64 o] d.2.2.2 := (rd_split t1).2
  have e2 : f = d.2.2.1 := (Value.int.inj (List.cons.inj (show [Value.int .i64 f] = [Value.int .i64 d.2.2.1] from h2)).1).2
  have e3 : o = d.2.2.2 := (Value.int.inj (List.cons.inj (show [Value.int .i64 o] = [Value.int .i64 d.2.2.2] from h3)).1).2
  have f2 : IntFit d.2.2.1 := hf.2.2.1
  have f3 : IntFit d.2.2.2 := hf.2.2.2
  rw [← e2] at f2
  rw [← e3] at f3
  exact ⟨f2, f3⟩
theorem rsn_n {d : tReason.D} (h : tReason.wt d ≤ 1048576) : List.length (α := Int) d.2.1 ≤ 1048576 := by
  have e : tReason.wt d = (tInt.wt d.1 + (tIntS.wt d.2.1 + (tInt.wt d.2.2.1 + tInt.wt d.2.2.2))) := rfl
  have e2 := wt_IntS d.2.1
  omega
end Go.Proofs.YteciobkjfmddcaaDoor
