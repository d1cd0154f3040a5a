/-
  Packed: Games, Keys, RulesOk, Cur, Push, RulesMake.
-/
import Derived.Test.YtojkonhhaamodaaProg
import Derived.Lib.Hide
import Derived.Outline
import Derived.Deep.QuietTactic
import Derived.BigQuiet
import Derived.Deep.AppendLies
import Derived.Test.YtojkonhhaamodaaQ1
set_option linter.unusedVariables false
namespace Go.Proofs.Ytojkonhhaamodaa
open Go.RowKit


/-- the game is one of n teams -/
def gameP (n : Int) (t : GameD) : Prop :=
  (2 ≤ n ∧ n ≤ 8) ∧ (0 ≤ t.home ∧ t.home ≤ n - 1) ∧ (0 ≤ t.away ∧ t.away ≤ n - 1) ∧ t.home ≠ t.away ∧ (0 ≤ t.st ∧ t.st ≤ 4) ∧
    ((t.st = 1 ∧ (0 ≤ t.hg ∧ t.hg ≤ 99) ∧ (0 ≤ t.ag ∧ t.ag ≤ 99)) ∨ (t.st ≠ 1 ∧ t.hg = 0 ∧ t.ag = 0))
theorem gameOk_spec (n : Int) (home away hg ag st : Int) (R : Bool) (w : World) (hR : R = true ↔ gameP n ⟨home, away, hg, ag, st⟩) :
    Calls Try.prog 86 #[.int .i64 n, .agg #[.int .i64 home, .int .i64 away, .int .i64 hg, .int .i64 ag, .int .i64 st]] w fun e w' => e = .returned (.bool R) ∧ Below w.heap.size w w' := by
  have hno : ¬ gameP n ⟨home, away, hg, ag, st⟩ → R = false := fun h => by
    cases R with
    | false => rfl
    | true => exact absurd (hR.1 rfl) h
  have hyes : gameP n ⟨home, away, hg, ag, st⟩ → R = true := hR.2
  have HN := Lib.hid hno
  have HY := Lib.hid hyes
  clear hR hno hyes
  by_cases h0 : 2 ≤ n ∧ n ≤ 8
  case neg =>
    obtain rfl := HN.out fun h => h0 h.1
    clear HN HY
    go_enter Try.func86, Try.ntmps86
    go_wp2_with (go_at_call 45; first | (refine (l01In_yes _ _ _ _ (by omega)).mono ?_; rintro e w' ⟨rfl, rfl⟩) | (refine (l01In_no _ _ _ _ (by omega)).mono ?_; rintro e w' ⟨rfl, rfl⟩))
    go_ret
    exact ⟨rfl, (Below.refl _ _).alloc (Nat.le_refl _) _⟩
  by_cases h1 : 0 ≤ home ∧ home ≤ n - 1
  case neg =>
    obtain rfl := HN.out fun h => h1 h.2.1
    clear HN HY
    go_enter Try.func86, Try.ntmps86
    go_wp2_with (go_at_call 45; first | (refine (l01In_yes _ _ _ _ (by omega)).mono ?_; rintro e w' ⟨rfl, rfl⟩) | (refine (l01In_no _ _ _ _ (by omega)).mono ?_; rintro e w' ⟨rfl, rfl⟩))
    go_ret
    exact ⟨rfl, (Below.refl _ _).alloc (Nat.le_refl _) _⟩
  by_cases h2 : 0 ≤ away ∧ away ≤ n - 1
  case neg =>
    obtain rfl := HN.out fun h => h2 h.2.2.1
    clear HN HY
    go_enter Try.func86, Try.ntmps86
    go_wp2_with (go_at_call 45; first | (refine (l01In_yes _ _ _ _ (by omega)).mono ?_; rintro e w' ⟨rfl, rfl⟩) | (refine (l01In_no _ _ _ _ (by omega)).mono ?_; rintro e w' ⟨rfl, rfl⟩))
    go_ret
    exact ⟨rfl, (Below.refl _ _).alloc (Nat.le_refl _) _⟩
  by_cases h3 : home = away
  · obtain rfl := HN.out fun h => h.2.2.2.1 h3
    have g1 : (home == away) = true := by simpa using h3
    have H3 := Lib.hid h3
    clear HN HY h3
    go_enter Try.func86, Try.ntmps86
    go_wp2_with (go_at_call 45; first | (refine (l01In_yes _ _ _ _ (by omega)).mono ?_; rintro e w' ⟨rfl, rfl⟩) | (refine (l01In_no _ _ _ _ (by omega)).mono ?_; rintro e w' ⟨rfl, rfl⟩))
    go_ret
    exact ⟨rfl, (Below.refl _ _).alloc (Nat.le_refl _) _⟩
  have g1 : (home == away) = false := beq_eq_false_iff_ne.2 h3
  by_cases h4 : 0 ≤ st ∧ st ≤ 4
  case neg =>
    obtain rfl := HN.out fun h => h4 h.2.2.2.2.1
    clear HN HY h3
    go_enter Try.func86, Try.ntmps86
    go_wp2_with (go_at_call 45; first | (refine (l01In_yes _ _ _ _ (by omega)).mono ?_; rintro e w' ⟨rfl, rfl⟩) | (refine (l01In_no _ _ _ _ (by omega)).mono ?_; rintro e w' ⟨rfl, rfl⟩))
    go_ret
    exact ⟨rfl, (Below.refl _ _).alloc (Nat.le_refl _) _⟩
  by_cases h5 : st = 1
  · by_cases h6 : 0 ≤ hg ∧ hg ≤ 99
    case neg =>
      obtain rfl := HN.out fun h => h.2.2.2.2.2.elim (fun h => h6 h.2.1) fun h => h.1 h5
      subst h5
      clear HN HY h3
      go_enter Try.func86, Try.ntmps86
      go_wp2_with (go_at_call 45; first | (refine (l01In_yes _ _ _ _ (by omega)).mono ?_; rintro e w' ⟨rfl, rfl⟩) | (refine (l01In_no _ _ _ _ (by omega)).mono ?_; rintro e w' ⟨rfl, rfl⟩))
      go_ret
      exact ⟨rfl, (Below.refl _ _).alloc (Nat.le_refl _) _⟩
    by_cases h7 : 0 ≤ ag ∧ ag ≤ 99
    case neg =>
      obtain rfl := HN.out fun h => h.2.2.2.2.2.elim (fun h => h7 h.2.2) fun h => h.1 h5
      subst h5
      clear HN HY h3
      go_enter Try.func86, Try.ntmps86
      go_wp2_with (go_at_call 45; first | (refine (l01In_yes _ _ _ _ (by omega)).mono ?_; rintro e w' ⟨rfl, rfl⟩) | (refine (l01In_no _ _ _ _ (by omega)).mono ?_; rintro e w' ⟨rfl, rfl⟩))
      go_ret
      exact ⟨rfl, (Below.refl _ _).alloc (Nat.le_refl _) _⟩
    obtain rfl := HY.out ⟨h0, h1, h2, h3, h4, .inl ⟨h5, h6, h7⟩⟩
    subst h5
    clear HN HY h3
    go_enter Try.func86, Try.ntmps86
    go_wp2_with (go_at_call 45; first | (refine (l01In_yes _ _ _ _ (by omega)).mono ?_; rintro e w' ⟨rfl, rfl⟩) | (refine (l01In_no _ _ _ _ (by omega)).mono ?_; rintro e w' ⟨rfl, rfl⟩))
    go_ret
    exact ⟨rfl, (Below.refl _ _).alloc (Nat.le_refl _) _⟩
  have g2 : (st != 1) = true := bne_iff_ne.2 h5
  by_cases h6 : hg = 0
  case neg =>
    obtain rfl := HN.out fun h => h.2.2.2.2.2.elim (fun h => h5 h.1) fun h => h6 h.2.1
    have g3 : (hg == 0) = false := beq_eq_false_iff_ne.2 h6
    clear HN HY h3 h5 h6
    go_enter Try.func86, Try.ntmps86
    go_wp2_with (go_at_call 45; first | (refine (l01In_yes _ _ _ _ (by omega)).mono ?_; rintro e w' ⟨rfl, rfl⟩) | (refine (l01In_no _ _ _ _ (by omega)).mono ?_; rintro e w' ⟨rfl, rfl⟩))
    go_ret
    exact ⟨rfl, (Below.refl _ _).alloc (Nat.le_refl _) _⟩
  subst h6
  by_cases h7 : ag = 0
  · obtain rfl := HY.out ⟨h0, h1, h2, h3, h4, .inr ⟨h5, rfl, h7⟩⟩
    subst h7
    clear HN HY h3 h5
    go_enter Try.func86, Try.ntmps86
    go_wp2_with (go_at_call 45; first | (refine (l01In_yes _ _ _ _ (by omega)).mono ?_; rintro e w' ⟨rfl, rfl⟩) | (refine (l01In_no _ _ _ _ (by omega)).mono ?_; rintro e w' ⟨rfl, rfl⟩))
    go_ret
    exact ⟨rfl, (Below.refl _ _).alloc (Nat.le_refl _) _⟩
  · obtain rfl := HN.out fun h => h.2.2.2.2.2.elim (fun h => h5 h.1) fun h => h7 h.2.2
    have g3 : (ag == 0) = false := beq_eq_false_iff_ne.2 h7
    clear HN HY h3 h5 h7
    go_enter Try.func86, Try.ntmps86
    go_wp2_with (go_at_call 45; first | (refine (l01In_yes _ _ _ _ (by omega)).mono ?_; rintro e w' ⟨rfl, rfl⟩) | (refine (l01In_no _ _ _ _ (by omega)).mono ?_; rintro e w' ⟨rfl, rfl⟩))
    go_ret
    exact ⟨rfl, (Below.refl _ _).alloc (Nat.le_refl _) _⟩
/-- the goals that count -/
def goalsD (t : GameD) : Int × Int × Bool := if t.st = 1 then (t.hg, t.ag, true) else if t.st = 2 then (3, 0, true) else if t.st = 3 then (0, 3, true) else (0, 0, false)
theorem goalsOf_spec (home away hg ag st : Int) (w : World) :
    Calls Try.prog 99 #[.agg #[.int .i64 home, .int .i64 away, .int .i64 hg, .int .i64 ag, .int .i64 st]] w fun e w' => e = .returned (.tuple #[.int .i64 (goalsD ⟨home, away, hg, ag, st⟩).1, .int .i64 (goalsD ⟨home, away, hg, ag, st⟩).2.1, .bool (goalsD ⟨home, away, hg, ag, st⟩).2.2]) ∧ Below w.heap.size w w' := by
  unfold goalsD
  simp only
  by_cases h1 : st = 1
  · subst h1
    rw [if_pos rfl]
    go_enter Try.func99, Try.ntmps99
    go_wp2
    go_quiet (fail)
    go_wp2
    go_ret3
    exact ⟨rfl, below_drewN ((Below.refl _ _).alloc (Nat.le_refl _) _) _⟩
  rw [if_neg h1]
  have g1 : (st == 1) = false := beq_eq_false_iff_ne.2 h1
  by_cases h2 : st = 2
  · subst h2
    rw [if_pos rfl]
    clear g1 h1
    go_enter Try.func99, Try.ntmps99
    go_wp2
    go_ret3
    exact ⟨rfl, (Below.refl _ _).alloc (Nat.le_refl _) _⟩
  rw [if_neg h2]
  have g2 : (st == 2) = false := beq_eq_false_iff_ne.2 h2
  by_cases h3 : st = 3
  · subst h3
    rw [if_pos rfl]
    clear g1 h1 g2 h2
    go_enter Try.func99, Try.ntmps99
    go_wp2
    go_ret3
    exact ⟨rfl, (Below.refl _ _).alloc (Nat.le_refl _) _⟩
  rw [if_neg h3]
  have g3 : (st == 3) = false := beq_eq_false_iff_ne.2 h3
  clear h1 h2 h3
  go_enter Try.func99, Try.ntmps99
  go_wp2
  go_ret3
  exact ⟨rfl, (Below.refl _ _).alloc (Nat.le_refl _) _⟩
def outcomeD (t : GameD) : Int := if (goalsD t).2.2 = true then (if (goalsD t).2.1 < (goalsD t).1 then 1 else if (goalsD t).1 = (goalsD t).2.1 then 2 else 3) else 0
theorem outcomeOf_spec (home away hg ag st : Int) (w : World) :
    Calls Try.prog 100 #[.agg #[.int .i64 home, .int .i64 away, .int .i64 hg, .int .i64 ag, .int .i64 st]] w fun e w' => e = .returned (.int .i64 (outcomeD ⟨home, away, hg, ag, st⟩)) ∧ Below w.heap.size w w' := by
  have C := Lib.hid (fun w1 => goalsOf_spec home away hg ag st w1)
  unfold outcomeD
  generalize goalsD ⟨home, away, hg, ag, st⟩ = q at *
  obtain ⟨a, b, ok⟩ := q
  simp only at C ⊢
  cases ok with
  | false =>
    rw [if_neg (by simp)]
    go_enter Try.func100, Try.ntmps100
    go_wp2_with fail
    refine (C.out _).mono ?_
    rintro e w1 ⟨rfl, b1⟩
    have b2 := below_prev b1
    go_wp2
    go_ret
    exact ⟨rfl, b2⟩
  | true =>
    rw [if_pos rfl]
    by_cases h1 : b < a
    · rw [if_pos h1]
      have g1 : decide (b < a) = true := decide_eq_true h1
      go_enter Try.func100, Try.ntmps100
      go_wp2_with fail
      refine (C.out _).mono ?_
      rintro e w1 ⟨rfl, b1⟩
      have b2 := below_prev b1
      go_wp2
      go_ret
      exact ⟨rfl, b2⟩
    rw [if_neg h1]
    have g1 : decide (b < a) = false := decide_eq_false h1
    by_cases h2 : a = b
    · rw [if_pos h2]
      have g2 : (a == b) = true := by simpa using h2
      have HH := Lib.hid h2
      clear h2 h1
      go_enter Try.func100, Try.ntmps100
      go_wp2_with fail
      refine (C.out _).mono ?_
      rintro e w1 ⟨rfl, b1⟩
      have b2 := below_prev b1
      go_wp2
      go_ret
      exact ⟨rfl, b2⟩
    · rw [if_neg h2]
      have g2 : (a == b) = false := beq_eq_false_iff_ne.2 h2
      go_enter Try.func100, Try.ntmps100
      go_wp2_with fail
      refine (C.out _).mono ?_
      rintro e w1 ⟨rfl, b1⟩
      have b2 := below_prev b1
      go_wp2
      go_ret
      exact ⟨rfl, b2⟩
theorem isOpen_spec (home away hg ag st : Int) (w : World) :
    Calls Try.prog 88 #[.agg #[.int .i64 home, .int .i64 away, .int .i64 hg, .int .i64 ag, .int .i64 st]] w fun e w' => e = .returned (.bool (st == 0)) ∧ Below w.heap.size w w' := by
  go_enter Try.func88, Try.ntmps88
  go_wp2
  go_ret
  exact ⟨rfl, (Below.refl _ _).alloc (Nat.le_refl _) _⟩
def playD (t : GameD) (o : Int) : GameD := if 1 ≤ o ∧ o ≤ 3 then ⟨t.home, t.away, if o = 1 then 1 else 0, if o = 3 then 1 else 0, 1⟩ else t
end Go.Proofs.Ytojkonhhaamodaa
set_option linter.unusedVariables false
namespace Go.Proofs.Ytojkonhhaamodaa
open Go.RowKit

theorem barr_ne {x y : ByteArray} (h : x ≠ y) : (x.toList == y.toList) = false := by
  rw [beq_eq_false_iff_ne, ne_eq, ByteArray.toList_eq, ByteArray.toList_eq]
  exact fun e => h (ByteArray.ext (Array.toList_inj.mp e))
/-- the name of key number k -/
def knm (k : Nat) : ByteArray := match k with
  | 1 => ⟨#[112, 111, 105, 110, 116, 115]⟩
  | 2 => ⟨#[100, 105, 102, 102, 101, 114, 101, 110, 99, 101]⟩
  | 3 => ⟨#[115, 99, 111, 114, 101, 100]⟩
  | 4 => ⟨#[119, 105, 110, 115]⟩
  | 5 => ⟨#[109, 117, 116, 117, 97, 108]⟩
  | 6 => ⟨#[109, 117, 116, 117, 97, 108, 100, 105, 102, 102, 101, 114, 101, 110, 99, 101]⟩
  | 7 => ⟨#[102, 97, 105, 114]⟩
  | 8 => ⟨#[115, 101, 101, 100]⟩
  | _ => ⟨#[]⟩
/-- a key's name, of any number -/
def knmI (k : Int) : ByteArray := if 1 ≤ k ∧ k ≤ 8 then knm k.toNat else ⟨#[]⟩
/-- the first key from k on, of r more, whose name is s; else 0 -/
def keyLead (s : ByteArray) : Nat → Nat → Nat
  | 0, _ => 0
  | r + 1, k => if knm k = s then k else keyLead s r (k + 1)
def mutualB (k : Int) : Bool := decide (k = 5 ∨ k = 6)
theorem isMutual_spec (k : Int) (w : World) : Calls Try.prog 94 #[.int .i64 k] w fun e w' => e = .returned (.bool (mutualB k)) ∧ w = w' := by
  generalize hr : mutualB k = R
  unfold mutualB at hr
  by_cases h5 : k = 5
  · subst h5
    obtain rfl : R = true := by simpa using hr.symm
    clear hr
    go_enter Try.func94, Try.ntmps94
    go_wp2
    go_ret
    exact ⟨rfl, rfl⟩
  by_cases h6 : k = 6
  · subst h6
    obtain rfl : R = true := by simpa using hr.symm
    clear hr h5
    go_enter Try.func94, Try.ntmps94
    go_wp2
    go_ret
    exact ⟨rfl, rfl⟩
  · obtain rfl : R = false := by simpa [h5, h6] using hr.symm
    have g5 : (k == 5) = false := beq_eq_false_iff_ne.2 h5
    have g6 : (k == 6) = false := beq_eq_false_iff_ne.2 h6
    clear hr h5 h6
    go_enter Try.func94, Try.ntmps94
    go_wp2
    go_ret
    exact ⟨rfl, rfl⟩
end Go.Proofs.Ytojkonhhaamodaa
set_option linter.unusedVariables false
namespace Go.Proofs.Ytojkonhhaamodaa
open Go.RowKit

/-- the ladder n, g is one: from 1 to 8 keys, all valid and different -/
def ladP (n : Nat) (g : Nat → Int) : Prop := (1 ≤ (n : Int) ∧ (n : Int) ≤ 8) ∧ ∀ i, i < n → (1 ≤ g i ∧ g i ≤ 8) ∧ ¬ hasP g (g i) i
def rulesP (win draw loss : Int) (n : Nat) (g : Nat → Int) : Prop := (0 ≤ win ∧ win ≤ 10) ∧ (0 ≤ draw ∧ draw ≤ win) ∧ (0 ≤ loss ∧ loss ≤ draw) ∧ ladP n g
theorem rulesOk_yes (win draw loss : Int) (ag : Bool) (v : Value) (n : Nat) (g : Nat → Int) (w : World) (h : IntRow w v n g) (hp : rulesP win draw loss n g) :
    Calls Try.prog 60 #[.agg #[.int .i64 win, .int .i64 draw, .int .i64 loss, v, .bool ag]] w fun e w' => e = .returned (.bool true) ∧ Below w.heap.size w w' := by
  obtain ⟨a, cap, rfl, hn, hv⟩ : ∃ a cap, v = .slice a n cap ∧ n ≤ 9223372036854775807 ∧ (0 < n → ∃ b off, a = some ⟨b, off, none⟩ ∧ n ≤ cap ∧ ∀ i, i < n → w.cell? ⟨b, off + i, none⟩ = some (.int .i64 (g i))) := by
    rcases h with ⟨a, cap, rfl, rfl⟩ | ⟨b, off, cap, rfl, _, hn, hc, hcap⟩
    · exact ⟨_, _, rfl, by omega, fun h => absurd h (by omega)⟩
    · exact ⟨_, _, rfl, hn, fun _ => ⟨b, off, rfl, hcap, hc⟩⟩
  obtain ⟨h1, h2, h3, h4, hall⟩ := hp
  have HV := Lib.hid hv
  have HA := Lib.hid hall
  clear hv h hall
  go_enter Try.func60, Try.ntmps60
  go_wp2_with (go_at_call 45; refine (l01In_yes _ _ _ _ (by omega)).mono ?_; rintro e w' ⟨rfl, rfl⟩)
  go_loop [35] (fun i => ∃ k : Nat, k ≤ n ∧ i = .int .i64 k) (fun i => n - (intOf i).toNat)
  case atStart => exact ⟨0, Nat.zero_le _, rfl⟩
  case round =>
    obtain ⟨k, hk, rfl⟩ := hrel
    by_cases hlt : k < n
    · obtain ⟨b, off, rfl, hcap, hc⟩ := HV.out (by omega)
      have c1 := hc k hlt
      have hblt : b < w.heap.size := World.block_lt_of_cell? w _ c1
      obtain ⟨hx, hno⟩ := HA.out k hlt
      have HT := Lib.hid ((IntRow.take k hk hn hcap hc).below ((Below.refl _ w).alloc (Nat.le_refl _) (.cells #[.int .i64 win, .int .i64 draw, .int .i64 loss, .slice (some ⟨b, off, none⟩) n cap, .bool ag] 26)) (Nat.le_refl _))
      have HNO := Lib.hid hno
      clear hc HV HA hno
      generalize g k = x at *
      have hk9 : (k : Int) ≤ cap := by omega
      go_wp2_with (first | (go_at_call 45; refine (l01In_yes _ _ _ _ (by omega)).mono ?_; rintro e w' ⟨rfl, rfl⟩) | (go_at_call 54; refine (l02Has_no _ k g x _ HT.out HNO.out).mono ?_; rintro e w' ⟨rfl, rfl⟩))
      go_round
      case rel => exact ⟨k + 1, by omega, by go_num⟩
      case measure => simp [intOf]; omega
    · go_wp2
      go_ret
      exact ⟨rfl, (Below.refl _ _).alloc (Nat.le_refl _) _⟩
theorem rulesOk_no (win draw loss : Int) (ag : Bool) (v : Value) (n : Nat) (g : Nat → Int) (w : World) (h : IntRow w v n g) (hp : ¬ rulesP win draw loss n g) :
    Calls Try.prog 60 #[.agg #[.int .i64 win, .int .i64 draw, .int .i64 loss, v, .bool ag]] w fun e w' => e = .returned (.bool false) ∧ Below w.heap.size w w' := by
  obtain ⟨a, cap, rfl, hn, hv⟩ : ∃ a cap, v = .slice a n cap ∧ n ≤ 9223372036854775807 ∧ (0 < n → ∃ b off, a = some ⟨b, off, none⟩ ∧ n ≤ cap ∧ ∀ i, i < n → w.cell? ⟨b, off + i, none⟩ = some (.int .i64 (g i))) := by
    rcases h with ⟨a, cap, rfl, rfl⟩ | ⟨b, off, cap, rfl, _, hn, hc, hcap⟩
    · exact ⟨_, _, rfl, by omega, fun h => absurd h (by omega)⟩
    · exact ⟨_, _, rfl, hn, fun _ => ⟨b, off, rfl, hcap, hc⟩⟩
  have HV := Lib.hid hv
  have HP := Lib.hid hp
  clear hv h hp
  by_cases h1 : 0 ≤ win ∧ win ≤ 10
  case neg =>
    go_enter Try.func60, Try.ntmps60
    go_wp2_with (go_at_call 45; refine (l01In_no _ _ _ _ h1).mono ?_; rintro e w' ⟨rfl, rfl⟩)
    go_ret
    exact ⟨rfl, (Below.refl _ _).alloc (Nat.le_refl _) _⟩
  by_cases h2 : 0 ≤ draw ∧ draw ≤ win
  case neg =>
    go_enter Try.func60, Try.ntmps60
    go_wp2_with fail
    refine (l01In_yes _ _ _ _ h1).mono ?_
    rintro e w' ⟨rfl, rfl⟩
    go_wp2_with fail
    refine (l01In_no _ _ _ _ h2).mono ?_
    rintro e w' ⟨rfl, rfl⟩
    go_wp2
    go_ret
    exact ⟨rfl, (Below.refl _ _).alloc (Nat.le_refl _) _⟩
  by_cases h3 : 0 ≤ loss ∧ loss ≤ draw
  case neg =>
    go_enter Try.func60, Try.ntmps60
    go_wp2_with fail
    refine (l01In_yes _ _ _ _ h1).mono ?_
    rintro e w' ⟨rfl, rfl⟩
    go_wp2_with fail
    refine (l01In_yes _ _ _ _ h2).mono ?_
    rintro e w' ⟨rfl, rfl⟩
    go_wp2_with fail
    refine (l01In_no _ _ _ _ h3).mono ?_
    rintro e w' ⟨rfl, rfl⟩
    go_wp2
    go_ret
    exact ⟨rfl, (Below.refl _ _).alloc (Nat.le_refl _) _⟩
  by_cases h4 : 1 ≤ (n : Int) ∧ (n : Int) ≤ 8
  case neg =>
    go_enter Try.func60, Try.ntmps60
    go_wp2_with fail
    refine (l01In_yes _ _ _ _ h1).mono ?_
    rintro e w' ⟨rfl, rfl⟩
    go_wp2_with fail
    refine (l01In_yes _ _ _ _ h2).mono ?_
    rintro e w' ⟨rfl, rfl⟩
    go_wp2_with fail
    refine (l01In_yes _ _ _ _ h3).mono ?_
    rintro e w' ⟨rfl, rfl⟩
    go_wp2_with fail
    refine (l01In_no _ _ _ _ h4).mono ?_
    rintro e w' ⟨rfl, rfl⟩
    go_wp2
    go_ret
    exact ⟨rfl, (Below.refl _ _).alloc (Nat.le_refl _) _⟩
  have HA : Hid (¬ ∀ i, i < n → (1 ≤ g i ∧ g i ≤ 8) ∧ ¬ hasP g (g i) i) := fun h => HP.out ⟨h1, h2, h3, h4, h⟩
  clear HP
  go_enter Try.func60, Try.ntmps60
  go_wp2_with (go_at_call 45; refine (l01In_yes _ _ _ _ (by omega)).mono ?_; rintro e w' ⟨rfl, rfl⟩)
  go_loop [35] (fun i => ∃ k : Nat, k ≤ n ∧ i = .int .i64 k ∧ Hid (∀ i, i < k → (1 ≤ g i ∧ g i ≤ 8) ∧ ¬ hasP g (g i) i)) (fun i => n - (intOf i).toNat)
  case atStart => exact ⟨0, Nat.zero_le _, rfl, fun i hi => absurd hi (by omega)⟩
  case round =>
    obtain ⟨k, hk, rfl, hok⟩ := hrel
    by_cases hlt : k < n
    · obtain ⟨b, off, rfl, hcap, hc⟩ := HV.out (by omega)
      have c1 := hc k hlt
      have hblt : b < w.heap.size := World.block_lt_of_cell? w _ c1
      have HT := Lib.hid ((IntRow.take k hk hn hcap hc).below ((Below.refl _ w).alloc (Nat.le_refl _) (.cells #[.int .i64 win, .int .i64 draw, .int .i64 loss, .slice (some ⟨b, off, none⟩) n cap, .bool ag] 26)) (Nat.le_refl _))
      have HS : Hid (((1 ≤ g k ∧ g k ≤ 8) ∧ ¬ hasP g (g k) k) → ∀ i, i < k + 1 → (1 ≤ g i ∧ g i ≤ 8) ∧ ¬ hasP g (g i) i) := fun h i hi => by
        by_cases hik : i = k
        · subst hik; exact h
        · exact hok.out i (by omega)
      clear hc HV HA hok
      have hk9 : (k : Int) ≤ cap := by omega
      by_cases hx : 1 ≤ g k ∧ g k ≤ 8
      · by_cases hno : hasP g (g k) k
        · have HNO := Lib.hid hno
          clear HS hno
          generalize g k = x at *
          go_wp2_with (first | (go_at_call 45; refine (l01In_yes _ _ _ _ (by omega)).mono ?_; rintro e w' ⟨rfl, rfl⟩) | (go_at_call 54; refine (l02Has_yes _ k g x _ HT.out HNO.out).mono ?_; rintro e w' ⟨rfl, rfl⟩))
          go_ret
          exact ⟨rfl, (Below.refl _ _).alloc (Nat.le_refl _) _⟩
        · have HNO := Lib.hid hno
          have HN : Hid (∀ i, i < k + 1 → (1 ≤ g i ∧ g i ≤ 8) ∧ ¬ hasP g (g i) i) := HS.out ⟨hx, hno⟩
          clear HS hno
          generalize hy : g k = x at c1 hx HNO
          clear hy
          go_wp2_with (first | (go_at_call 45; refine (l01In_yes _ _ _ _ (by omega)).mono ?_; rintro e w' ⟨rfl, rfl⟩) | (go_at_call 54; refine (l02Has_no _ k g x _ HT.out HNO.out).mono ?_; rintro e w' ⟨rfl, rfl⟩))
          go_round
          case rel => exact ⟨k + 1, by omega, by go_num, HN.out⟩
          case measure => simp [intOf]; omega
      · clear HS HT
        generalize g k = x at c1 hx
        go_wp2_with (go_at_call 45; refine (l01In_no _ _ _ _ hx).mono ?_; rintro e w' ⟨rfl, rfl⟩)
        go_ret
        exact ⟨rfl, (Below.refl _ _).alloc (Nat.le_refl _) _⟩
    · obtain rfl : k = n := by omega
      exact absurd hok.out HA.out
theorem rulesOk_spec (win draw loss : Int) (ag R : Bool) (v : Value) (n : Nat) (g : Nat → Int) (w : World) (hR : R = true ↔ rulesP win draw loss n g) (h : IntRow w v n g) :
    Calls Try.prog 60 #[.agg #[.int .i64 win, .int .i64 draw, .int .i64 loss, v, .bool ag]] w fun e w' => e = .returned (.bool R) ∧ Below w.heap.size w w' := by
  cases R with
  | true => exact rulesOk_yes win draw loss ag v n g w h (hR.1 rfl)
  | false => exact rulesOk_no win draw loss ag v n g w h fun hp => by simpa using hR.2 hp
end Go.Proofs.Ytojkonhhaamodaa
set_option linter.unusedVariables false
namespace Go.Proofs.Ytojkonhhaamodaa
open Go.RowKit

/-- what the frame of a proof is told of a slice of integers that came in -/
def IsRow (k : IntKind) (w : World) (a : Option Addr) (len cap : Nat) (zs : List Int) : Prop :=
  (a = none ∧ len = 0 ∧ cap = 0 ∧ zs = []) ∨
  ∃ x, a = some x ∧ len ≤ cap ∧ cap ≤ maxLen ∧ zs.length = cap ∧ (∀ i, i < zs.length → w.cell? (x.add i) = some (.int k (zs.getD i 0))) ∧ ∀ n ∈ zs, (Lit.int k n).wf = true
/-- v is a slice of len bytes that read g in w -/
def ByteRow (w : World) (a : Option Addr) (len : Nat) (g : Nat → Nat) : Prop :=
  0 < len → ∃ b off, a = some ⟨b, off, none⟩ ∧ ∀ i, i < len → w.cell? ⟨b, off + i, none⟩ = some (.int .u8 (g i))
def getN (zs : List Int) (i : Nat) : Nat := (zs.getD i 0).toNat
theorem IsRow.bytes {w : World} {a : Option Addr} {len cap : Nat} {zs : List Int} (h : IsRow .u8 w a len cap zs) : ByteRow w a len (getN zs) ∧ (∀ i, getN zs i ≤ 255) ∧ len ≤ 9223372036854775807 := by
  rcases h with ⟨rfl, rfl, rfl, rfl⟩ | ⟨x, rfl, hl, hm, hz, hc, hw⟩
  · exact ⟨fun h => absurd h (by omega), fun i => by simp [getN], by omega⟩
  · have key : ∀ i, 0 ≤ zs.getD i 0 ∧ zs.getD i 0 ≤ 255 := by
      intro i
      by_cases hi : i < zs.length
      · have := hw zs[i] (List.getElem_mem hi)
        simp [Lit.wf, IntKind.min, IntKind.max, IntKind.signed, IntKind.bits] at this
        simp [List.getD, List.getElem?_eq_getElem hi]; omega
      · simp [List.getD, List.getElem?_eq_none (Nat.le_of_not_lt hi)]
    refine ⟨fun h0 => ?_, fun i => by have := key i; unfold getN; omega, by unfold maxLen at hm; omega⟩
    obtain ⟨b, off, spot⟩ := x
    have hc0 := hc 0 (by omega)
    have hspot : spot = none := by simpa [Addr.add] using World.cell?_spot hc0
    subst hspot
    refine ⟨b, off, rfl, fun i hi => ?_⟩
    have h1 := hc i (by omega)
    have hadd : (⟨b, off, none⟩ : Addr).add i = ⟨b, off + i, none⟩ := by unfold Addr.add; split <;> simp_all
    rw [hadd] at h1
    rw [h1]
    have := key i
    unfold getN
    congr 2
    omega
theorem ByteRow.below {w w' : World} {a : Option Addr} {len B : Nat} {g : Nat → Nat} (h : ByteRow w a len g) (hb : Below B w w') (hB : w.heap.size ≤ B) : ByteRow w' a len g := by
  intro h0
  obtain ⟨b, off, h1, h2⟩ := h h0
  exact ⟨b, off, h1, fun i hi => (hb.cell (p := ⟨b, off + i, none⟩) (Nat.lt_of_lt_of_le (World.block_lt_of_cell? w _ (h2 i hi)) hB)).trans (h2 i hi)⟩

/-- block B is the drawing's cursor over a slice of bytes below block B -/
structure Cur (B : Nat) (a : Option Addr) (len cap : Nat) (g : Nat → Nat) (w : World) : Prop where
  blk : ∃ (i : Nat) (h : Int), w.heap[B]? = some (.cells #[.slice a len cap, .int .i64 i, .int .i64 h] 74 (0, 0)) ∧ i ≤ len
  row : ByteRow w a len g
  low : 0 < len → ∀ b off, a = some ⟨b, off, none⟩ → b < B
  small : ∀ i, g i ≤ 255
  fits : len ≤ 9223372036854775807

theorem set2 {w : World} {B : Nat} {s x y : Value} {T : TypeId} (z : Value) (h : w.heap[B]? = some (.cells #[s, x, y] T (0, 0))) : (w.setCell ⟨B, 2, none⟩ z).heap[B]? = some (.cells #[s, x, z] T (0, 0)) := by
  rw [heap_setCell_same w B 2 _ _ _ h]; rfl
theorem set1 {w : World} {B : Nat} {s x y : Value} {T : TypeId} (z : Value) (h : w.heap[B]? = some (.cells #[s, x, y] T (0, 0))) : (w.setCell ⟨B, 1, none⟩ z).heap[B]? = some (.cells #[s, z, y] T (0, 0)) := by
  rw [heap_setCell_same w B 1 _ _ _ h]; rfl
theorem grown_set (w : World) (B j : Nat) (z : Value) : w.grownBy (w.setCell ⟨B, j, none⟩ z) (some B) :=
  ⟨rfl, rfl, rfl, by simp, fun k _ hk => heap_setCell_other w ⟨B, j, none⟩ k z (fun e => hk (by simp [e]))⟩
theorem grown_trans {a b c : World} {row : Option Nat} (h : a.grownBy b row) (k : b.grownBy c row) : a.grownBy c row :=
  ⟨k.os.trans h.os, k.tape.trans h.tape, k.output.trans h.output, Nat.le_trans h.size k.size, fun i hi hne => (k.block i (Nat.lt_of_lt_of_le hi h.size) hne).trans (h.block i hi hne)⟩
theorem grown_drewN {a b : World} {row : Option Nat} (h : a.grownBy b row) (q : Nat) : a.grownBy (b.drewN q) row := ⟨h.os, h.tape, h.output, h.size, h.block⟩
theorem grown_refl (a : World) (row : Option Nat) : a.grownBy a row := ⟨rfl, rfl, rfl, Nat.le_refl _, fun _ _ _ => rfl⟩
theorem ByteRow.grown {w w' : World} {a : Option Addr} {len B : Nat} {g : Nat → Nat} (h : ByteRow w a len g) (hg : w.grownBy w' (some B)) (hl : 0 < len → ∀ b off, a = some ⟨b, off, none⟩ → b < B) : ByteRow w' a len g := by
  intro h0
  obtain ⟨b, off, h1, h2⟩ := h h0
  refine ⟨b, off, h1, fun i hi => hg.cell (h2 i hi) ?_⟩
  have := hl h0 b off h1
  intro e
  simp at e; omega
theorem Cur.to {B : Nat} {a : Option Addr} {len cap : Nat} {g : Nat → Nat} {w w' : World} (h : Cur B a len cap g w) (hg : w.grownBy w' (some B))
    (hb : ∃ (i : Nat) (h : Int), w'.heap[B]? = some (.cells #[.slice a len cap, .int .i64 i, .int .i64 h] 74 (0, 0)) ∧ i ≤ len) : Cur B a len cap g w' :=
  ⟨hb, h.row.grown hg h.low, h.low, h.small, h.fits⟩

theorem and_mask (z : Int) (m : Nat) (hm : m < 2147483648) : ∃ n : Nat, n ≤ m ∧ bits .and .i64 z (m : Int) = (n : Int) := by
  refine ⟨((BitVec.ofInt 64 z) &&& (BitVec.ofInt 64 (m : Int))).toNat, ?_, ?_⟩
  · rw [BitVec.toNat_and, BitVec.ofInt_natCast, BitVec.toNat_ofNat, Nat.mod_eq_of_lt (by omega)]
    exact Nat.and_le_right
  · have h : ((BitVec.ofInt 64 z) &&& (BitVec.ofInt 64 (m : Int))).toNat ≤ m := by
      rw [BitVec.toNat_and, BitVec.ofInt_natCast, BitVec.toNat_ofNat, Nat.mod_eq_of_lt (by omega)]
      exact Nat.and_le_right
    simp only [bits]
    rw [IntKind.wrap_i64]
    show (((((BitVec.ofInt 64 z) &&& (BitVec.ofInt 64 (m : Int))).toNat : Nat) : Int) + 9223372036854775808) % 18446744073709551616 - 9223372036854775808 = _
    omega
theorem and255 (z : Int) : ∃ n : Nat, n ≤ 255 ∧ bits .and .i64 z 255 = (n : Int) := and_mask z 255 (by decide)

/-- a number below lim is drawn from the cursor in block B; nothing else that was there is written -/
def Drawn (B : Nat) (a : Option Addr) (len cap : Nat) (g : Nat → Nat) (lim : Nat) (w : World) (e : Ending) (w' : World) : Prop :=
  ∃ x : Nat, x < lim ∧ e = .returned (.int .i64 (x : Int)) ∧ Cur B a len cap g w' ∧ w.grownBy w' (some B)
theorem drawn_set {B : Nat} {a : Option Addr} {len cap : Nat} {g : Nat → Nat} {lim : Nat} {w w2 : World} {i : Nat} {h2 : Int} (q y : Nat) (hg : w.grownBy w2 (some B)) (hc : Cur B a len cap g w2)
    (hb : w2.heap[B]? = some (.cells #[.slice a len cap, .int .i64 i, .int .i64 h2] 74 (0, 0))) (hi : i < len) (hy : y < lim) :
    Drawn B a len cap g lim w (.returned (.int .i64 (y : Int))) ((w2.drewN q).setCell ⟨B, 1, none⟩ (.int .i64 ((i : Int) + 1))) := by
  have hG : w2.grownBy ((w2.drewN q).setCell ⟨B, 1, none⟩ (.int .i64 ((i : Int) + 1))) (some B) := grown_trans (grown_drewN (grown_refl w2 (some B)) q) (grown_set (w2.drewN q) B 1 (.int .i64 ((i : Int) + 1)))
  exact ⟨y, hy, rfl, hc.to hG ⟨i + 1, h2, set1 (w := w2.drewN q) (.int .i64 ((i : Int) + 1)) hb, hi⟩, grown_trans hg hG⟩
theorem drawn_plain {B : Nat} {a : Option Addr} {len cap : Nat} {g : Nat → Nat} {lim : Nat} {w w2 : World} {i : Nat} {h2 : Int} (q q2 y : Nat) (hg : w.grownBy w2 (some B)) (hc : Cur B a len cap g w2)
    (hb : w2.heap[B]? = some (.cells #[.slice a len cap, .int .i64 i, .int .i64 h2] 74 (0, 0))) (hi : i ≤ len) (hy : y < lim) :
    Drawn B a len cap g lim w (.returned (.int .i64 (y : Int))) ((w2.drewN q).drewN q2) := by
  have hG : w2.grownBy ((w2.drewN q).drewN q2) (some B) := grown_drewN (grown_drewN (grown_refl w2 (some B)) q) q2
  exact ⟨y, hy, rfl, hc.to hG ⟨i, h2, hb, hi⟩, grown_trans hg hG⟩
theorem l01Byte_any (B : Nat) (a : Option Addr) (len cap : Nat) (g : Nat → Nat) (w : World) (hc : Cur B a len cap g w) :
    Calls Try.prog 27 #[.pointer (some ⟨B, 0, none⟩)] w (Drawn B a len cap g 256 w) := by
  obtain ⟨i, h, hB, hi⟩ := hc.blk
  have c2 : w.cell? ⟨B, 2, none⟩ = some (.int .i64 h) := by rw [cell_of_row w B 2 _ _ (0, 0) hB]; rfl
  have f2 : w.frozen? ⟨B, 2, none⟩ = false := frozen_of_row w B 2 _ _ hB
  have hfit := hc.fits
  have HB := Lib.hid hB
  clear hB
  have HC := Lib.hid hc
  clear hc
  go_enter Try.func27, Try.ntmps27
  go_wp2
  generalize wrap64 (wrap64 (h * 6364136223846793005) + 1442695040888963407) = h2
  have HB2 := Lib.hid (set2 (.int .i64 h2) HB.out)
  have HG2 := Lib.hid (grown_set w B 2 (.int .i64 h2))
  have HC2 := Lib.hid (HC.out.to HG2.out ⟨i, h2, HB2.out, hi⟩)
  generalize w.setCell ⟨B, 2, none⟩ (.int .i64 h2) = w2 at *
  clear c2 f2 HB HC
  have c0 : w2.cell? ⟨B, 0, none⟩ = some (.slice a len cap) := by rw [cell_of_row w2 B 0 _ _ (0, 0) HB2.out]; rfl
  have c1 : w2.cell? ⟨B, 1, none⟩ = some (.int .i64 i) := by rw [cell_of_row w2 B 1 _ _ (0, 0) HB2.out]; rfl
  have c2 : w2.cell? ⟨B, 2, none⟩ = some (.int .i64 h2) := by rw [cell_of_row w2 B 2 _ _ (0, 0) HB2.out]; rfl
  have f1 : w2.frozen? ⟨B, 1, none⟩ = false := frozen_of_row w2 B 1 _ _ HB2.out
  by_cases hlt : i < len
  · obtain ⟨b, off, rfl, hcell⟩ := HC2.out.row (by omega)
    have hcb := hcell i hlt
    have hgi := HC2.out.small i
    have hne : ¬ (b = B) := by have := HC2.out.low (by omega) b off rfl; omega
    clear hcell
    obtain ⟨x, hx, hxe⟩ := and255 (bits BinOp.xor IntKind.i64 (h2 / 8589934592) (h2 / 35184372088832))
    go_quiet (fail)
    go_wp2
    clear hxe
    go_quiet (fail)
    go_wp2
    obtain ⟨y, hy, hye⟩ := and255 ((x : Int) + (g i : Int))
    have hwr : IntKind.i64.wrap ((x : Int) + (g i : Int)) = (x : Int) + (g i : Int) := by rw [IntKind.wrap_i64]; omega
    go_quiet (fail)
    go_wp2
    go_ret
    exact drawn_set _ y HG2.out HC2.out HB2.out hlt (by omega)
  · obtain ⟨x, hx, hxe⟩ := and255 (bits BinOp.xor IntKind.i64 (h2 / 8589934592) (h2 / 35184372088832))
    go_quiet (fail)
    go_wp2
    clear hxe
    go_quiet (fail)
    go_wp2
    go_ret
    exact drawn_plain _ _ x HG2.out HC2.out HB2.out hi (by omega)

theorem l01Below_small (B : Nat) (a : Option Addr) (len cap : Nat) (g : Nat → Nat) (n : Nat) (w : World) (hc : Cur B a len cap g w) (h0 : 0 < n) (hn : n ≤ 256) :
    Calls Try.prog 30 #[.pointer (some ⟨B, 0, none⟩), .int .i64 (n : Int)] w (Drawn B a len cap g n w) := by
  have g0 : decide ((n : Int) ≤ 0) = false := decide_eq_false (by omega)
  have g1 : decide ((n : Int) ≤ 256) = true := decide_eq_true (by omega)
  have HC := Lib.hid hc
  clear hc
  go_enter Try.func30, Try.ntmps30
  go_wp2_with fail
  refine (l01Byte_any B a len cap g _ HC.out).mono ?_
  rintro e w1 ⟨x, hx, rfl, c1, g1⟩
  have Hc1 := Lib.hid c1
  have Hg1 := Lib.hid g1
  clear c1 g1
  go_wp2
  go_ret
  exact ⟨x % n, Nat.mod_lt _ h0, by simp, Hc1.out, Hg1.out⟩
theorem l01Below_big (B : Nat) (a : Option Addr) (len cap : Nat) (g : Nat → Nat) (n : Nat) (w : World) (hc : Cur B a len cap g w) (hn : 256 < n) (hn2 : n ≤ 9223372036854775807) :
    Calls Try.prog 30 #[.pointer (some ⟨B, 0, none⟩), .int .i64 (n : Int)] w (Drawn B a len cap g n w) := by
  have g0 : decide ((n : Int) ≤ 0) = false := decide_eq_false (by omega)
  have g1 : decide ((n : Int) ≤ 256) = false := decide_eq_false (by omega)
  have HC := Lib.hid hc
  clear hc
  go_enter Try.func30, Try.ntmps30
  go_wp2_with fail
  refine (l01Byte_any B a len cap g _ HC.out).mono ?_
  rintro e w1 ⟨x1, hx1, rfl, c1, r1⟩
  have Hc1 := Lib.hid c1
  have Hr1 := Lib.hid r1
  clear c1 r1
  go_wp2_with fail
  refine (l01Byte_any B a len cap g _ Hc1.out).mono ?_
  rintro e w2 ⟨x2, hx2, rfl, c2, r2⟩
  have Hc2 := Lib.hid c2
  have Hr2 := Lib.hid (grown_trans Hr1.out r2)
  clear c2 r2
  go_wp2_with fail
  refine (l01Byte_any B a len cap g _ Hc2.out).mono ?_
  rintro e w3 ⟨x3, hx3, rfl, c3, r3⟩
  have Hc3 := Lib.hid c3
  have Hr3 := Lib.hid (grown_trans Hr2.out r3)
  clear c3 r3
  go_wp2_with fail
  refine (l01Byte_any B a len cap g _ Hc3.out).mono ?_
  rintro e w4 ⟨x4, hx4, rfl, c4, r4⟩
  have Hc4 := Lib.hid c4
  have Hr4 := Lib.hid (grown_trans Hr3.out r4)
  clear c4 r4
  go_wp2
  go_ret
  exact ⟨(x1 * 16777216 + x2 * 65536 + x3 * 256 + x4) % n, Nat.mod_lt _ (by omega), by simp, Hc4.out, Hr4.out⟩
theorem l01Below_any (B : Nat) (a : Option Addr) (len cap : Nat) (g : Nat → Nat) (n : Nat) (w : World) (hc : Cur B a len cap g w) (h0 : 0 < n) (hn2 : n ≤ 9223372036854775807) :
    Calls Try.prog 30 #[.pointer (some ⟨B, 0, none⟩), .int .i64 (n : Int)] w (Drawn B a len cap g n w) := by
  by_cases h : n ≤ 256
  · exact l01Below_small B a len cap g n w hc h0 h
  · exact l01Below_big B a len cap g n w hc (by omega) hn2

/-- a new cursor over the bytes of code -/
def CurMade (a : Option Addr) (len cap : Nat) (g : Nat → Nat) (w : World) (e : Ending) (w' : World) : Prop :=
  ∃ B, e = .returned (.pointer (some ⟨B, 0, none⟩)) ∧ w.heap.size ≤ B ∧ Cur B a len cap g w' ∧ Below w.heap.size w w'
theorem cur_made {a : Option Addr} {len cap : Nat} {g : Nat → Nat} {w : World} (h : Int) (hr : ByteRow w a len g) (hg : ∀ i, g i ≤ 255) (hl : len ≤ 1048576) :
    CurMade a len cap g w (.returned (.pointer (some ⟨w.heap.size, 0, none⟩))) (w.alloc (.cells #[.slice a len cap, .int .i64 0, .int .i64 h] 74)) := by
  have hb : Below w.heap.size w (w.alloc (.cells #[.slice a len cap, .int .i64 0, .int .i64 h] 74)) := (Below.refl _ _).alloc (Nat.le_refl _) _
  refine ⟨w.heap.size, rfl, Nat.le_refl _, ⟨⟨0, h, heap_alloc_new w _, Nat.zero_le _⟩, hr.below hb (Nat.le_refl _), fun h0 b off e => ?_, hg, by omega⟩, hb⟩
  obtain ⟨b', off', e', hc⟩ := hr h0
  rw [e'] at e
  simp only [Option.some.injEq, Addr.mk.injEq] at e
  rw [← e.1]
  exact World.block_lt_of_cell? w _ (hc 0 h0)
set_option maxRecDepth 100000 in
theorem l01New_any (a : Option Addr) (len cap : Nat) (g : Nat → Nat) (w : World) (hr : ByteRow w a len g) (hg : ∀ i, g i ≤ 255) (hl : len ≤ 1048576) :
    Calls Try.prog 16 #[.slice a len cap] w (CurMade a len cap g w) := by
  have HR := Lib.hid hr
  have HG := Lib.hid hg
  clear hr hg
  go_enter Try.func16, Try.ntmps16
  go_wp2
  go_loop [3, 4] (fun hv i => ∃ (j : Nat) (h : Int), j ≤ len ∧ i = .int .i64 j ∧ hv = .int .i64 h) (fun _ i => len - (intOf i).toNat)
  case atStart => exact ⟨0, _, Nat.zero_le _, rfl, rfl⟩
  case round =>
    obtain ⟨j, h, hj, rfl, rfl⟩ := hrel
    by_cases hlt : j < len
    · by_cases h4 : j < 4000
      · obtain ⟨b, off, rfl, hcell⟩ := HR.out (by omega)
        have hc := hcell j hlt
        have hgj := HG.out j
        clear hcell
        go_wp2
        go_round
        case rel => exact ⟨j + 1, _, by omega, by go_num, rfl⟩
        case measure => simp [intOf]; omega
      · go_wp2
        go_ret
        exact cur_made h HR.out HG.out hl
    · go_wp2
      go_ret
      exact cur_made h HR.out HG.out hl

/-- l27New: a cursor behind n drawn bytes -/
theorem l27New_any (a : Option Addr) (len cap n : Nat) (g : Nat → Nat) (w : World) (hr : ByteRow w a len g) (hg : ∀ i, g i ≤ 255) (hl : len ≤ 1048576) (hn : n ≤ 1000000) :
    Calls Try.prog 21 #[.slice a len cap, .int .i64 (n : Int)] w (CurMade a len cap g w) := by
  have C := Lib.hid (l01New_any a len cap g w hr hg hl)
  clear hr hg hl
  go_enter Try.func21, Try.ntmps21
  go_wp2_with fail
  refine C.out.mono ?_
  rintro e w1 ⟨B, rfl, hB, hc, hb⟩
  clear C
  have HC := Lib.hid hc
  clear hc
  go_wp2_with fail
  go_loopw [6] (fun i wr => ∃ j : Nat, j ≤ n ∧ i = .int .i64 j ∧ Hid (Cur B a len cap g wr) ∧ Below w.heap.size w wr) (fun i _ => n - (intOf i).toNat)
  case atStart => exact ⟨0, Nat.zero_le _, rfl, HC.out, hb⟩
  case round =>
    obtain ⟨j, hj, rfl, hcr, hbr⟩ := hrel
    clear HC hb
    by_cases hlt : j < n
    · go_wp2_with (go_at_call 27; refine (l01Byte_any B a len cap g _ hcr.out).mono ?_; rintro e w2 ⟨x, hx, rfl, c2, r2⟩; have hk := Lib.hid c2; clear c2)
      go_roundw
      case rel =>
        have hsz := hbr.size
        exact ⟨j + 1, by omega, by go_num, by assumption, hbr.grown (by assumption) hsz (fun k hk => by cases hk; exact hB)⟩
      case measure => simp [intOf]; omega
    · go_wp2
      go_ret
      exact ⟨B, rfl, hB, hcr.out, hbr⟩
/-- MakeNum: a number below 65536 -/
theorem makeNum_any (a : Option Addr) (len cap n : Nat) (g : Nat → Nat) (w : World) (hr : ByteRow w a len g) (hg : ∀ i, g i ≤ 255) (hl : len ≤ 1048576) (hn : n ≤ 1000000) :
    Calls Try.prog 12 #[.slice a len cap, .int .i64 (n : Int)] w fun e w' => (∃ x : Nat, x < 65536 ∧ e = .returned (.int .i64 (x : Int))) ∧ Below w.heap.size w w' := by
  have C := Lib.hid (l27New_any a len cap n g w hr hg hl hn)
  clear hr hg hl
  go_enter Try.func12, Try.ntmps12
  go_wp2_with fail
  refine C.out.mono ?_
  rintro e w1 ⟨B, rfl, hB, hc, hb⟩
  clear C
  have HC := Lib.hid hc
  clear hc
  go_wp2_with fail
  refine (l01Byte_any B a len cap g _ HC.out).mono ?_
  rintro e w2 ⟨x, hx, rfl, c2, r2⟩
  have hs1 := hb.size
  have hb2 := hb.grown r2 hs1 (fun k hk => by cases hk; exact hB)
  have HC2 := Lib.hid c2
  clear c2 r2 HC
  go_wp2_with fail
  refine (l01Byte_any B a len cap g _ HC2.out).mono ?_
  rintro e w3 ⟨y, hy, rfl, c3, r3⟩
  have hs2 := hb2.size
  have hb3 := hb2.grown r3 hs2 (fun k hk => by cases hk; exact hB)
  clear c3 r3 HC2
  go_wp2
  go_ret
  exact ⟨⟨x * 256 + y, by omega, by simp⟩, hb3⟩

def mtL : Nat → ByteArray
  | 0 => ⟨#[97]⟩
  | 1 => ⟨#[98, 99]⟩
  | 2 => ⟨#[32]⟩
  | 3 => ⟨#[44]⟩
  | _ => ⟨#[120, 49]⟩
theorem mtL_size (i : Nat) : (mtL i).size ≤ 2 := by
  match i with
  | 0 => decide
  | 1 => decide
  | 2 => decide
  | 3 => decide
  | n + 4 => show (2 : Nat) ≤ 2; omega
end Go.Proofs.Ytojkonhhaamodaa
set_option linter.unusedVariables false
namespace Go.Proofs.Ytojkonhhaamodaa
open Go.RowKit

theorem wpList_pushL {P : Program} {w : World} {ops : Array Oper} {rest : List Oper} {o : Oper} {a : Act} {Q : Exit → Act → World → Prop} (hgd : o.guard = none) (s x : Operand) (t : TypeId)
    (ho : o.op = .call { callee := .builtin .append, args := #[s, x], argTypes := #[t, t] })
    (base : Nat) (e : TypeId) {i : TypeInfo} {z : Value} {size bytes : Nat} (ht : P.underlying t = some (.slice e)) (hi : P.info? e = some i) (hz : i.zero = some z)
    (hsize : i.size = size) (hby : i.bytes = bytes) (hzs : z.cells.size = size) (hsz : 0 < size)
    (cs : List Value) (hcs : cs.length = size) (h1 : ∀ u ∈ cs, u.oneCell' = true)
    {v : Value} {n : Nat} {xs : List Value} (hs : a.eval s = v) (hx : a.eval x = .slice (some ⟨w.heap.size, 0, none⟩) 1 1) (hown : w.ownsRow base e size v n xs)
    (h63 : n + 1 ≤ maxLen) (hbytes : (n + 1) * bytes ≤ 140737488355328) (hbase : base ≤ w.heap.size)
    (h : ∀ g cap w', w'.ownsRow base e size (.slice (some ⟨g, 0, none⟩) (n + 1) cap) (n + 1) (xs ++ cs) → w.grownBy w' v.ownBlock → (v.ownBlock = some g ∨ w.heap.size ≤ g) → g < w'.heap.size →
      wpList P ops Q rest (a.put o.dst (.slice (some ⟨g, 0, none⟩) (n + 1) cap)) w') : wpList P ops Q (o :: rest) a (w.alloc (.cells cs.toArray e)) := by
  refine wpList_append_lies _ hgd s x t ho base e i z size bytes ht hi hz hsize hby hzs hsz v n xs hs (hown.alloc _) ⟨w.heap.size, 0, none⟩ 1 1 cs hx (by simpa using hcs)
    (by simpa using World.news_of_block (cs := cs.toArray) (heap_alloc_new w (.cells cs.toArray e))) h1 (by omega) h63 hbytes (by simp; omega) _ rfl ?_
  intro g cap w' h2 h3 hat hlt
  have hg0 := World.grownBy_alloc w (.cells cs.toArray e) v.ownBlock
  refine h g cap w' h2 ⟨h3.os.trans hg0.os, h3.tape.trans hg0.tape, h3.output.trans hg0.output, Nat.le_trans hg0.size h3.size, fun k hk hne => ?_⟩ ?_ hlt
  · rw [h3.block k (Nat.lt_of_lt_of_le hk hg0.size) hne, hg0.block k hk hne]
  · rcases hat with h5 | h5
    · exact .inl h5
    · right; rw [h5]; simp
theorem news_of_row {w : World} {b m c : Nat} {g : Nat → Int} (h : IntRow w (.slice (some ⟨b, 0, none⟩) m c) m g) :
    ∀ j u, ((List.range m).map fun j => Value.int .i64 (g j))[j]? = some u → w.cell? ((⟨b, 0, none⟩ : Addr).add j) = some u := by
  intro j u hu
  simp only [List.getElem?_map] at hu
  by_cases hj : j < m
  · rw [List.getElem?_range hj] at hu
    simp only [Option.map_some, Option.some.injEq] at hu
    subst hu
    have hadd : (⟨b, 0, none⟩ : Addr).add j = ⟨b, j, none⟩ := by unfold Addr.add; split <;> simp_all
    rw [hadd]
    rcases h with ⟨_, _, _, h1⟩ | ⟨b', off, c', he, _, _, hc, _⟩
    · omega
    · simp only [Value.slice.injEq, Option.some.injEq, Addr.mk.injEq, and_true] at he
      obtain ⟨⟨rfl, rfl⟩, _⟩ := he
      simpa using hc j hj
  · rw [List.getElem?_eq_none (by simp; omega)] at hu; cases hu
theorem ones_row {m : Nat} {g : Nat → Int} : ∀ u ∈ (List.range m).map (fun j => Value.int .i64 (g j)), u.oneCell' = true := by
  intro u hu; simp only [List.mem_map] at hu; obtain ⟨_, _, rfl⟩ := hu; rfl
/-- 'append([]int{}, x...)' for a slice x of m ints, m > 0: a new slice with the same ints -/
theorem wpList_cloneI {P : Program} {w : World} {ops : Array Oper} {rest : List Oper} {o : Oper} {a : Act} {Q : Exit → Act → World → Prop} (hgd : o.guard = none) (s x : Operand) (t : TypeId)
    (ho : o.op = .call { callee := .builtin .append, args := #[s, x], argTypes := #[t, t] })
    (e : TypeId) {i : TypeInfo} (ht : P.underlying t = some (.slice e)) (hi : P.info? e = some i) (hz : i.zero = some (.int .i64 0)) (hsize : i.size = 1) (hby : i.bytes = 8)
    {v : Value} {m : Nat} {g : Nat → Int} (hs : a.eval s = .slice (some ⟨w.heap.size, 0, none⟩) 0 0) (hx : a.eval x = v) (hrow : IntRow w v m g) (h0 : 0 < m) (hm : m ≤ 1048576)
    (h : ∀ gg cap w', w'.ownsRow w.heap.size e 1 (.slice (some ⟨gg, 0, none⟩) m cap) m ((List.range m).map fun j => Value.int .i64 (g j)) → IntRow w' (.slice (some ⟨gg, 0, none⟩) m cap) m g → Below w.heap.size w w' → w.heap.size ≤ gg → gg < w'.heap.size →
      wpList P ops Q rest (a.put o.dst (.slice (some ⟨gg, 0, none⟩) m cap)) w') : wpList P ops Q (o :: rest) a (w.alloc (.cells #[] e)) := by
  rcases hrow with ⟨_, _, _, h1⟩ | ⟨b, off, c, rfl, _, _, hc, _⟩
  · omega
  have hown : (w.alloc (.cells #[] e)).ownsRow w.heap.size e 1 (.slice (some ⟨w.heap.size, 0, none⟩) 0 0) 0 [] := World.ownsRow_lit w #[] 0 (Nat.le_refl _) (by decide) rfl
  refine wpList_append_lies _ hgd s x t ho w.heap.size e i (.int .i64 0) 1 8 ht hi hz hsize hby rfl (by decide) (.slice (some ⟨w.heap.size, 0, none⟩) 0 0) 0 [] hs hown ⟨b, off, none⟩ m c ((List.range m).map fun j => Value.int .i64 (g j)) hx (by simp) ?_
    (by intro u hu; simp only [List.mem_map] at hu; obtain ⟨_, _, rfl⟩ := hu; rfl) h0 (by unfold maxLen; omega) (by omega) (by simp) _ rfl ?_
  · intro j u hu
    simp only [List.getElem?_map] at hu
    by_cases hj : j < m
    · rw [List.getElem?_range hj] at hu
      simp only [Option.map_some, Option.some.injEq] at hu
      subst hu
      have hadd : (⟨b, off, none⟩ : Addr).add j = ⟨b, off + j, none⟩ := by unfold Addr.add; split <;> simp_all
      rw [hadd]
      exact (((Below.refl _ w).alloc (Nat.le_refl _) (.cells #[] e)).cell (p := ⟨b, off + j, none⟩) (World.block_lt_of_cell? w _ (hc j hj))).trans (hc j hj)
    · rw [List.getElem?_eq_none (by simp; omega)] at hu; cases hu
  · intro gg cap w' ho' hg' hat hlt
    simp only [Nat.zero_add, List.nil_append] at ho' ⊢
    refine h gg cap w' ho' (IntRow.of_owns ho' (by omega) fun j hj => by simp [hj]) (((Below.refl _ w).alloc (Nat.le_refl _) _).grown hg' (by simp) (fun k hk => by simp [Value.ownBlock] at hk; omega)) ?_ hlt
    rcases hat with h5 | h5
    · simp [Value.ownBlock] at h5; omega
    · rw [h5]; simp
end Go.Proofs.Ytojkonhhaamodaa
set_option linter.unusedVariables false
namespace Go.Proofs.Ytojkonhhaamodaa
open Go.RowKit

theorem Cur.belowW {B base : Nat} {a : Option Addr} {len cap : Nat} {g : Nat → Nat} {w w' : World} (h : Cur B a len cap g w) (hb : Below base w w') (hB : B < base) : Cur B a len cap g w' := by
  obtain ⟨i, x, hh, hi⟩ := h.blk
  refine ⟨⟨i, x, (hb.block B hB).trans hh, hi⟩, fun h0 => ?_, h.low, h.small, h.fits⟩
  obtain ⟨b, off, h1, h2⟩ := h.row h0
  have := h.low h0 b off h1
  exact ⟨b, off, h1, fun i hi => (hb.cell (p := ⟨b, off + i, none⟩) (show b < base by omega)).trans (h2 i hi)⟩
theorem Cur.ltW {B : Nat} {a : Option Addr} {len cap : Nat} {g : Nat → Nat} {w : World} (h : Cur B a len cap g w) : B < w.heap.size := by
  obtain ⟨i, x, hh, hi⟩ := h.blk
  exact (Array.getElem?_eq_some_iff.1 hh).1
theorem l01Once_any (B : Nat) (a : Option Addr) (len cap : Nat) (g : Nat → Nat) (n : Nat) (w : World) (hc : Cur B a len cap g w) (h0 : 0 < n) (hn : n ≤ 256) :
    Calls Try.prog 40 #[.pointer (some ⟨B, 0, none⟩), .int .i64 (n : Int)] w fun e w' => (∃ r : Bool, e = .returned (.bool r)) ∧ Cur B a len cap g w' ∧ w.grownBy w' (some B) := by
  have C := Lib.hid (l01Below_small B a len cap g n w hc h0 hn)
  clear hc
  go_enter Try.func40, Try.ntmps40
  go_wp2_with fail
  refine C.out.mono ?_
  rintro e w1 ⟨x, hx, rfl, c1, g1⟩
  have C1 := Lib.hid c1
  have G1 := Lib.hid g1
  clear c1 g1
  go_wp2
  go_ret
  exact ⟨⟨_, rfl⟩, C1.out, G1.out⟩
/-- the keys of a drawn ladder, before the last -/
def drawnL (L : List Int) : Prop := L.head? = some 1 ∧ (∀ i, 0 < i → i < L.length → 2 ≤ getI L i ∧ getI L i ≤ 7) ∧ ∀ i j, i < j → j < L.length → getI L i ≠ getI L j
theorem getI_last (L : List Int) (x : Int) : getI (L ++ [x]) L.length = x := by simp [getI]
theorem getI_left (L : List Int) (x : Int) (i : Nat) (h : i < L.length) : getI (L ++ [x]) i = getI L i := by
  simp only [getI, List.getD_eq_getElem?_getD]; rw [List.getElem?_append_left h]
theorem drawnL.push {L : List Int} {x : Int} (h : drawnL L) (hx : 2 ≤ x ∧ x ≤ 7) (hn : ¬ hasP (getI L) x L.length) : drawnL (L ++ [x]) := by
  obtain ⟨h1, h2, h3⟩ := h
  have hl : 0 < L.length := by cases L with
    | nil => simp at h1
    | cons _ _ => simp
  refine ⟨by rw [List.head?_append]; rw [h1]; rfl, fun i h0 hi => ?_, fun i j hij hj => ?_⟩
  · simp only [List.length_append, List.length_cons, List.length_nil] at hi
    by_cases e : i = L.length
    · rw [e, getI_last]; exact hx
    · rw [getI_left _ _ _ (by omega)]; exact h2 i h0 (by omega)
  · simp only [List.length_append, List.length_cons, List.length_nil] at hj
    rw [getI_left _ _ i (by omega)]
    by_cases e : j = L.length
    · rw [e, getI_last]; exact fun he => hn ⟨i, by omega, he⟩
    · rw [getI_left _ _ j (by omega)]; exact h3 i j hij (by omega)
/-- drawn rules -/
def RulesGood (win : Int) (L : List Int) : Prop := (win = 2 ∨ win = 3) ∧ ∃ K, L = K ++ [8] ∧ drawnL K ∧ K.length ≤ 4
/-- what a round of the drawing holds of the world: block D is the rules' box, v the ladder -/
def DrawS (B : Nat) (a : Option Addr) (len cap : Nat) (g : Nat → Nat) (w0 : World) (D : Nat) (win : Int) (ag : Bool) (L : List Int) (w : World) : Prop :=
  ∃ v, Cur B a len cap g w ∧ w.heap[D]? = some (.cells #[.int .i64 win, .int .i64 1, .int .i64 0, v, .bool ag] 26 (0, 0)) ∧
    w.ownsRow (w0.heap.size + 1) 3 1 v L.length (L.map (Value.int .i64)) ∧ v.ownBlock ≠ some D ∧ (∃ aa cc, v = .slice aa L.length cc) ∧ w0.grownBy w (some B) ∧ B < w0.heap.size ∧ w0.heap.size + 1 ≤ D ∧
    w.heap[w0.heap.size]? = some (.cells #[.int .i64 0, .int .i64 0, .int .i64 0, .slice none 0 0, .bool false] 26 (0, 0))
def RulesDrawn (B : Nat) (a : Option Addr) (len cap : Nat) (g : Nat → Nat) (w : World) (e : Ending) (w' : World) : Prop :=
  ∃ v win ag L, e = .returned (.agg #[.int .i64 win, .int .i64 1, .int .i64 0, v, .bool ag]) ∧ RulesGood win L ∧ w'.ownsRow w.heap.size 3 1 v L.length (L.map (Value.int .i64)) ∧ Cur B a len cap g w' ∧ w.grownBy w' (some B)
theorem World.grownBy_set (w : World) (B j : Nat) (z : Value) : w.grownBy (w.setCell ⟨B, j, none⟩ z) (some B) := grown_set w B j z
theorem grown_to {w0 w w' : World} {B : Nat} (h : w0.grownBy w (some B)) (hb : Below w.heap.size w w') : w0.grownBy w' (some B) :=
  grown_trans h ⟨hb.os, hb.tape, hb.output, hb.size, fun k hk _ => hb.block k hk⟩
section
variable {B : Nat} {a : Option Addr} {len cap : Nat} {g : Nat → Nat} {w0 : World} {D : Nat} {win : Int} {ag : Bool} {L : List Int} {w w' : World}
theorem DrawS.cur (h : DrawS B a len cap g w0 D win ag L w) : Cur B a len cap g w := h.choose_spec.1
/-- another number is drawn -/
theorem DrawS.drawn (h : DrawS B a len cap g w0 D win ag L w) (hc : Cur B a len cap g w') (hg : w.grownBy w' (some B)) : DrawS B a len cap g w0 D win ag L w' := by
  obtain ⟨v, h1, h2, h3, h4, h5, h6, h7, h8, h9⟩ := h
  have hD : D < w.heap.size := (Array.getElem?_eq_some_iff.1 h2).1
  refine ⟨v, hc, (hg.block D hD (by intro e; simp at e; omega)).trans h2, h3.kept hg ?_, h4, h5, grown_trans h6 hg, h7, h8, (hg.block _ (by omega) (by intro e; simp at e; omega)).trans h9⟩
  cases hv : v.ownBlock with
  | none => exact .inl rfl
  | some k =>
    refine .inr fun e => ?_
    have := (h3.lt k hv).1
    simp at e; omega
theorem DrawS.open (h : DrawS B a len cap g w0 D win ag L w) (hL : L.length ≤ 9) :
    ∃ v, w.cell? ⟨D, 0, none⟩ = some (.int .i64 win) ∧ w.cell? ⟨D, 1, none⟩ = some (.int .i64 1) ∧ w.cell? ⟨D, 2, none⟩ = some (.int .i64 0) ∧ w.cell? ⟨D, 3, none⟩ = some v ∧ w.cell? ⟨D, 4, none⟩ = some (.bool ag) ∧
      w.frozen? ⟨D, 3, none⟩ = false ∧ IntRow w v L.length (getI L) ∧ w.ownsRow (w0.heap.size + 1) 3 1 v L.length (L.map (Value.int .i64)) ∧ (∃ aa cc, v = .slice aa L.length cc) ∧ w0.heap.size + 1 ≤ w.heap.size ∧ (w0.heap.size + 1 ≤ D ∧ v.ownBlock ≠ some D ∧ D < w.heap.size) ∧ (∀ w', w.grownBy w' v.ownBlock → w'.heap[D]? = some (.cells #[.int .i64 win, .int .i64 1, .int .i64 0, v, .bool ag] 26 (0, 0)) ∧ w'.heap[w0.heap.size]? = some (.cells #[.int .i64 0, .int .i64 0, .int .i64 0, .slice none 0 0, .bool false] 26 (0, 0))) ∧
      ∀ x v' w', w'.ownsRow (w0.heap.size + 1) 3 1 v' (L.length + 1) (L.map (Value.int .i64) ++ [.int .i64 x]) → w.grownBy w' v.ownBlock →
        (∃ gg cc, v' = .slice (some ⟨gg, 0, none⟩) (L.length + 1) cc ∧ (v.ownBlock = some gg ∨ w.heap.size ≤ gg)) → DrawS B a len cap g w0 D win ag (L ++ [x]) (w'.setCell ⟨D, 3, none⟩ v') := by
  obtain ⟨v, h1, h2, h3, h4, h5, h6, h7, h8, h9⟩ := h
  have hD : D < w.heap.size := (Array.getElem?_eq_some_iff.1 h2).1
  have c : ∀ j, w.cell? ⟨D, j, none⟩ = #[.int .i64 win, .int .i64 1, .int .i64 0, v, .bool ag][j]? := fun j => cell_of_row w D j _ _ (0, 0) h2
  have hk : ∀ w', w.grownBy w' v.ownBlock → w'.heap[D]? = w.heap[D]? := fun w' hg => hg.block D hD (fun e => h4 e.symm)
  have hkR : ∀ w', w.grownBy w' v.ownBlock → w'.heap[w0.heap.size]? = w.heap[w0.heap.size]? := fun w' hg => hg.block _ (by omega) (fun e => by have := (h3.lt _ e.symm).1; omega)
  refine ⟨v, c 0, c 1, c 2, c 3, c 4, frozen_of_row w D 3 _ _ h2, IntRow.of_list h3 (by omega), h3, h5, Nat.le_trans h8 (by omega), ⟨h8, h4, hD⟩, fun w' hg => ⟨(hk w' hg).trans h2, (hkR w' hg).trans h9⟩, fun x v' w' o' hg hv' => ?_⟩
  obtain ⟨gg, cc, rfl, hat⟩ := hv'
  have hgD : gg ≠ D := by
    rcases hat with h9 | h9
    · intro e; exact h4 (by rw [h9, e])
    · omega
  have hw9 : w'.heap[D]? = _ := (hk w' hg).trans h2
  have hB : w0.heap.size ≤ w.heap.size := h6.size
  have hbel : Below w0.heap.size w (w'.setCell ⟨D, 3, none⟩ (.slice (some ⟨gg, 0, none⟩) (L.length + 1) cc)) :=
    ((Below.refl _ _).grown hg hB (fun k hk => by have := (h3.lt k hk).1; omega)).setCell (by show w0.heap.size ≤ D; omega) _
  refine ⟨.slice (some ⟨gg, 0, none⟩) (L.length + 1) cc, h1.belowW hbel h7, ?_, ?_, ?_, ⟨some ⟨gg, 0, none⟩, cc, by simp⟩, ?_, h7, h8, ?_⟩
  · rw [heap_setCell_same w' D 3 _ _ _ hw9]; rfl
  · have := (o'.kept (World.grownBy_set w' D 3 (.slice (some ⟨gg, 0, none⟩) (L.length + 1) cc)) (.inr fun e => hgD (by simpa [Value.ownBlock] using e)))
    simpa using this
  · intro e; exact hgD (by simpa [Value.ownBlock] using e)
  · exact ⟨hbel.os.trans h6.os, hbel.tape.trans h6.tape, hbel.output.trans h6.output, Nat.le_trans hB hbel.size, fun k hk hne => (hbel.block k hk).trans (h6.block k hk hne)⟩
  · rw [Below.heap_setCell _ _ _ _ (by show w0.heap.size ≠ D; omega), hkR w' hg]; exact h9
theorem DrawS.grown (h : DrawS B a len cap g w0 D win ag L w) : w0.grownBy w (some B) ∧ B < w0.heap.size := by
  obtain ⟨v, h1, h2, h3, h4, h5, h6, h7, _⟩ := h
  exact ⟨h6, h7⟩
theorem drawn_end {w5 w9 : World} {V : Value} {x : Nat} (hx : x < 2) (hL : drawnL L) (hLl : L.length ≤ 4) (h : DrawS B a len cap g w0 D win ag (L ++ [8]) w5) (ho : w9.ownsRow (w0.heap.size + 1) 3 1 V (L.length + 1) (L.map (Value.int .i64) ++ [.int .i64 8]))
    (hb : Below w0.heap.size w5 w9) : RulesDrawn B a len cap g w0 (.returned (.agg #[.int .i64 (2 + (x : Int)), .int .i64 1, .int .i64 0, V, .bool ag])) w9 := by
  obtain ⟨h6, h7⟩ := h.grown
  refine ⟨V, _, ag, L ++ [8], rfl, ⟨by omega, L, rfl, hL, hLl⟩, ?_, h.cur.belowW hb h7, hb.os.trans h6.os, hb.tape.trans h6.tape, hb.output.trans h6.output, Nat.le_trans h6.size hb.size, fun k hk hne => (hb.block k hk).trans (h6.block k hk hne)⟩
  have := owns_mono ho (base' := w0.heap.size) (by omega)
  simpa using this
end
set_option maxRecDepth 100000 in
set_option maxHeartbeats 1000000 in
theorem l03Draw_any (B : Nat) (a : Option Addr) (len cap : Nat) (g : Nat → Nat) (w : World) (hc : Cur B a len cap g w) :
    Calls Try.prog 42 #[.pointer (some ⟨B, 0, none⟩)] w (RulesDrawn B a len cap g w) := by
  obtain ⟨i0, hi, hz0, hz1, hz2⟩ := info_parts Try.infoI
  have hlB := hc.ltW
  have L1 := Lib.hid (fun w1 hc (m : Nat) (h1 : 0 < m) (h2 : m ≤ 256) => l01Below_small B a len cap g m w1 hc h1 h2)
  have L2 := Lib.hid (fun w1 hc => l01Once_any B a len cap g 2 w1 hc (by omega) (by omega))
  have HC := Lib.hid hc
  clear hc
  go_enter Try.func42, Try.ntmps42
  go_wp2_with fail
  refine (L1.out _ (HC.out.belowW ((Below.refl _ w).alloc (Nat.le_refl _) _) hlB) 2 (by omega) (by omega)).mono ?_
  rintro e w1 ⟨x, hx, rfl, c1, g1⟩
  have G1 : Hid (w.grownBy w1 (some B)) := grown_trans (World.grownBy_alloc w _ _) g1
  have H1 : Hid (w1.heap[w.heap.size]? = some (.cells #[.int .i64 0, .int .i64 0, .int .i64 0, .slice none 0 0, .bool false] 26 (0, 0))) := by
    show _ = _
    rw [g1.block _ (by simp) (by intro e; simp at e; omega)]; exact heap_alloc_new w _
  have C1 := Lib.hid c1
  have F1 : Hid (w1.heap.size > w.heap.size) := by have := g1.size; simp at this; show w1.heap.size > w.heap.size; omega
  clear c1 g1
  go_wp2_with fail
  refine (L2.out _ C1.out).mono ?_
  rintro e w2 ⟨⟨ag, rfl⟩, c2, g2⟩
  have H0 : Hid (w2.heap[w.heap.size]? = some (.cells #[.int .i64 0, .int .i64 0, .int .i64 0, .slice none 0 0, .bool false] 26 (0, 0))) := by
    show _ = _
    rw [g2.block _ F1.out (by intro e; simp at e; omega)]; exact H1.out
  have G2 := Lib.hid (grown_trans G1.out g2)
  have C2 := Lib.hid c2
  have F2 : Hid (w2.heap.size > w.heap.size) := by have := g2.size; have := F1.out; show w2.heap.size > w.heap.size; omega
  clear c2 g2 C1 G1 F1
  go_wp2_with fail
  refine (L1.out _ (C2.out.belowW (((Below.refl _ w2).alloc (Nat.le_refl _) _).alloc (by simp) _) C2.out.ltW) 4 (by omega) (by omega)).mono ?_
  rintro e w3 ⟨m, hm, rfl, c3, g3⟩
  have S3 : Hid (DrawS B a len cap g w (w2.heap.size + 1) (2 + (x : Int)) ag [1] w3) := by
    have hlt2 := C2.out.ltW
    have hsz2 := F2.out
    have hsz2' : w.heap.size < w2.heap.size := hsz2
    have W2 : ∀ (o1 o2 : Obj), (((w2.alloc o1).alloc o2).heap[w2.heap.size]? = some o1 ∧ ((w2.alloc o1).alloc o2).heap[w2.heap.size + 1]? = some o2) := fun o1 o2 => by
      refine ⟨?_, ?_⟩
      · rw [Below.heap_alloc _ _ _ (by simp)]; exact heap_alloc_new w2 o1
      · have := heap_alloc_new (w2.alloc o1) o2; simpa using this
    have hs3 := g3.size
    simp only [World.size_alloc] at hs3
    refine ⟨.slice (some ⟨w2.heap.size, 0, none⟩) 1 1, c3, ?_, ⟨rfl, .inr ⟨w2.heap.size, 1, #[.int .i64 1], rfl, hsz2', ?_, Nat.le_refl _, by decide, rfl, rfl⟩⟩, by simp [Value.ownBlock], ⟨_, _, rfl⟩, ?_, hlB, by omega, ?_⟩
    · exact (g3.block _ (by simp) (by intro e; simp at e; omega)).trans (W2 _ _).2
    · exact (g3.block _ (by simp; omega) (by intro e; simp at e; omega)).trans (W2 _ _).1
    · exact grown_trans (grown_to G2.out (((Below.refl _ w2).alloc (Nat.le_refl _) _).alloc (by simp) _)) g3
    · rw [g3.block _ (by simp; omega) (by intro e; simp at e; omega), Below.heap_alloc _ _ _ (by simp; omega), Below.heap_alloc _ _ _ (by omega)]
      exact H0.out
  generalize w2.heap.size + 1 = D at *
  clear c3 g3 G2 C2 F2 L2 HC H0 H1
  go_wp2
  go_loopw [4] (fun i wr => ∃ (j : Nat) (L : List Int), i = .int .i64 j ∧ L.length + j ≤ 4 ∧ Hid (drawnL L) ∧ Hid (DrawS B a len cap g w D (2 + (x : Int)) ag L wr)) (fun i _ => (intOf i).toNat)
  case atStart => exact ⟨m, [1], rfl, by simp; omega, ⟨rfl, fun i h0 hi => absurd hi (by simp; omega), fun i j hij hj => absurd hj (by simp; omega)⟩, S3.out⟩
  case round =>
    clear S3
    obtain ⟨j, L, rfl, hj, hL, hS⟩ := hrel
    by_cases hlt : 0 < j
    · have C1 := Lib.hid hS.out.cur
      go_wp2_with fail
      refine (L1.out _ C1.out 6 (by omega) (by omega)).mono ?_
      rintro e w4 ⟨y, hy, rfl, c4, g4⟩
      have S4 := Lib.hid (hS.out.drawn c4 g4)
      obtain ⟨v, k0, k1, k2, k3, k4, f3, r4, o4, ⟨aa, cc, hv⟩, hsz, ⟨hRD, hvD, hDlt⟩, hf4, hpush⟩ := S4.out.open (by omega)
      have R4 := Lib.hid r4
      have O4 := Lib.hid o4
      have P4 := Lib.hid (hpush (2 + (y : Int)))
      have F4 := Lib.hid hf4
      subst hv
      clear c4 g4 hS C1 r4 o4 hpush hf4
      by_cases hh : hasP (getI L) (2 + (y : Int)) L.length
      · go_wp2_with fail
        refine (l02Has_yes _ L.length (getI L) _ _ R4.out hh).mono ?_
        rintro e w' ⟨rfl, rfl⟩
        go_wp2
        go_roundw
        case rel => exact ⟨j - 1, L, by go_num, by omega, hL, S4⟩
        case measure => simp [intOf]; omega
      · go_wp2_with fail
        refine (l02Has_no _ L.length (getI L) _ _ R4.out hh).mono ?_
        rintro e w' ⟨rfl, rfl⟩
        have hL2 := Lib.hid (hL.out.push (x := 2 + (y : Int)) (by omega) hh)
        have HN := Lib.hid hh
        clear hh
        go_wp2_with (at_builtin; refine wpList_pushL rfl (.tmp 28) (.tmp 30) 24 rfl (w.heap.size + 1) 3 Try.underlying24 hi hz0 hz1 hz2 rfl (by decide) [.int .i64 (2 + (y : Int))] rfl (by intro u hu; simp at hu; subst hu; rfl) rfl rfl O4.out (by unfold maxLen; omega) (by omega) hsz ?_; intro gg cc5 w5 o5 g5 at5 lt5; have S5 := Lib.hid (P4.out _ w5 o5 g5 ⟨_, _, rfl, at5⟩); have f5 : w5.frozen? ⟨D, 3, none⟩ = false := frozen_of_row w5 D 3 _ _ (F4.out w5 g5).1; have e5 := cell_of_row w5 D 3 _ _ (0, 0) (F4.out w5 g5).1)
        go_roundw
        case rel => exact ⟨j - 1, L ++ [2 + (y : Int)], by go_num, by simp; omega, hL2, S5⟩
        case measure => simp [intOf]; omega
    · obtain rfl : j = 0 := by omega
      obtain ⟨v, k0, k1, k2, k3, k4, f3, r4, o4, ⟨aa, cc, hv⟩, hsz, ⟨hRD, hvD, hDlt⟩, hf4, hpush⟩ := hS.out.open (by omega)
      have O4 := Lib.hid o4
      have P4 := Lib.hid (hpush 8)
      have F4 := Lib.hid hf4
      subst hv
      have HVD := Lib.hid hvD
      have n1 : ¬ (w.heap.size = D) := by omega
      have n2 : ¬ (D = w.heap.size) := by omega
      clear hS r4 o4 hpush hf4 hvD
      go_wp2_with (at_builtin; refine wpList_pushL rfl (.tmp 34) (.tmp 35) 24 rfl (w.heap.size + 1) 3 Try.underlying24 hi hz0 hz1 hz2 rfl (by decide) [.int .i64 8] rfl (by intro u hu; simp at hu; subst hu; rfl) rfl rfl O4.out (by unfold maxLen; omega) (by omega) hsz ?_; intro gg cc5 w5 o5 g5 at5 lt5; have S5 := Lib.hid (P4.out _ w5 o5 g5 ⟨_, _, rfl, at5⟩); have W5 := F4.out w5 g5; have f5 : w5.frozen? ⟨D, 3, none⟩ = false := frozen_of_row w5 D 3 _ _ W5.1; have d5 := fun j => cell_of_row w5 D j _ _ (0, 0) W5.1; have q5 := fun j => cell_of_row w5 w.heap.size j _ _ (0, 0) W5.2; have r5 := fun j => frozen_of_row w5 w.heap.size j _ _ W5.2; have hlt5 := (Array.getElem?_eq_some_iff.1 W5.2).1; have hlt6 := (Array.getElem?_eq_some_iff.1 W5.1).1; have e0 : w5.cell? ⟨D, 0, none⟩ = some (.int .i64 (2 + (x : Int))) := d5 0; have e1 : w5.cell? ⟨D, 1, none⟩ = some (.int .i64 1) := d5 1; have e2 : w5.cell? ⟨D, 2, none⟩ = some (.int .i64 0) := d5 2; have e3 : w5.cell? ⟨D, 3, none⟩ = some (.slice aa L.length cc) := d5 3; have e4 : w5.cell? ⟨D, 4, none⟩ = some (.bool ag) := d5 4; have q0 : w5.cell? ⟨w.heap.size, 0, none⟩ = some (.int .i64 0) := q5 0; have r0 := r5 0; have q1 : w5.cell? ⟨w.heap.size, 1, none⟩ = some (.int .i64 0) := q5 1; have r1 := r5 1; have q2 : w5.cell? ⟨w.heap.size, 2, none⟩ = some (.int .i64 0) := q5 2; have r2 := r5 2; have q3 : w5.cell? ⟨w.heap.size, 3, none⟩ = some (.slice none 0 0) := q5 3; have r3 := r5 3; have q4 : w5.cell? ⟨w.heap.size, 4, none⟩ = some (.bool false) := q5 4; have r4 := r5 4; clear d5 q5 r5 W5)
      have hgD : gg ≠ D := by
        rcases at5 with h9 | h9
        · intro e; exact HVD.out (Eq.trans h9 (by rw [e]))
        · omega
      have hgR : w.heap.size + 1 ≤ gg := (o5.lt gg rfl).1
      have O5 := Lib.hid o5
      clear o5 at5 g5
      go_wp2
      refine bodyPost_ret (v := .agg #[.int .i64 (2 + (x : Int)), .int .i64 1, .int .i64 0, .slice (some ⟨gg, 0, none⟩) (L.length + 1) cc5, .bool ag]) (by simp [results, Try.results42, go_sem, q0, q1, q2, q3, q4]) rfl ?_
      refine drawn_end hx hL.out (by omega) S5.out ?_ ?_
      · iterate 5 (refine (World.ownsRow.kept ?_ (World.grownBy_set _ w.heap.size _ _) (.inr (by intro e; simp [Value.ownBlock] at e; omega))))
        exact (O5.out.kept (World.grownBy_set _ D 3 _) (.inr (by intro e; simp [Value.ownBlock] at e; omega)))
      · iterate 5 (refine Below.setCell ?_ (by simp) _)
        exact Below.refl _ _
/-- rules have been made -/
def RulesIs (w : World) (e : Ending) (w' : World) : Prop :=
  ∃ v win ag L, e = .returned (.agg #[.int .i64 win, .int .i64 1, .int .i64 0, v, .bool ag]) ∧ RulesGood win L ∧ w'.ownsRow w.heap.size 3 1 v L.length (L.map (Value.int .i64)) ∧ Below w.heap.size w w'
end Go.Proofs.Ytojkonhhaamodaa
