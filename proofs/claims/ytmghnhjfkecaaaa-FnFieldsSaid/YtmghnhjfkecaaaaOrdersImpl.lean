/-
  Orders: the program's PlaceOf and IsOrder.
-/
import Derived.Test.YtmghnhjfkecaaaaOrders
import Derived.Test.YtmghnhjfkecaaaaCur
set_option linter.unusedVariables false
namespace Go.Proofs.Ytmghnhjfkecaaaa
open Go.RowKit

theorem IsRow.ints {w : World} {a : Option Addr} {len cap : Nat} {zs : List Int} (h : IsRow .i64 w a len cap zs) : IntRow w (.slice a len cap) len (getI zs) ∧ len ≤ 9223372036854775807 := by
  rcases h with ⟨rfl, rfl, rfl, rfl⟩ | ⟨x, rfl, hl, hm, hz, hc, _⟩
  · exact ⟨.inl ⟨_, _, rfl, rfl⟩, by omega⟩
  · unfold maxLen at hm
    refine ⟨?_, by omega⟩
    by_cases h0 : len = 0
    · subst h0; exact .inl ⟨_, _, rfl, rfl⟩
    · obtain ⟨b, off, spot⟩ := x
      have hspot : spot = none := by simpa [Addr.add] using World.cell?_spot (hc 0 (by omega))
      subst hspot
      refine .inr ⟨b, off, cap, rfl, by omega, by omega, fun i hi => ?_, hl⟩
      have hadd : (⟨b, off, none⟩ : Addr).add i = ⟨b, off + i, none⟩ := by unfold Addr.add; split <;> simp_all
      rw [← hadd]
      exact hc i (by omega)

theorem slicesIndex_int (v : Value) (n : Nat) (g : Nat → Int) (x : Int) (w : World) (h : IntRow w v n g) :
    Calls Try.prog 44 #[v, .int .i64 x] w fun e w' => e = .returned (.int .i64 (placeI g x n 0)) ∧ w = w' := by
  obtain ⟨a, cap, rfl, hn, hv⟩ := h.form
  have HV := Lib.hid hv
  clear hv h
  generalize hr : placeI g x n 0 = R
  have HR := Lib.hid hr
  clear hr
  go_enter Try.func44, Try.ntmps44
  go_wp2
  go_loop [8] (fun i => ∃ k : Nat, k ≤ n ∧ i = .int .i64 k ∧ Hid (placeI g x (n - k) k = R)) (fun i => n - (intOf i).toNat)
  case atStart => exact ⟨0, Nat.zero_le _, rfl, HR.out⟩
  case round =>
    obtain ⟨k, hk, rfl, hp⟩ := hrel
    by_cases hlt : k < n
    · obtain ⟨b, off, rfl, hc⟩ := HV.out (by omega)
      have c1 := hc k hlt
      have hstep : (if g k = x then (k : Int) else placeI g x (n - (k + 1)) (k + 1)) = R := by
        have := hp.out
        rw [show n - k = n - (k + 1) + 1 by omega] at this
        exact this
      clear hc HV hp
      by_cases hx : g k = x
      · rw [if_pos hx] at hstep
        subst hstep
        clear HR
        rw [hx] at c1
        clear hx
        go_wp2
        go_ret
        exact ⟨rfl, rfl⟩
      · rw [if_neg hx] at hstep
        have HS := Lib.hid hstep
        have g1 : (x == g k) = false := by simpa using fun h : x = g k => hx h.symm
        clear hx hstep
        generalize g k = y at c1 g1
        go_wp2
        go_round
        case rel => exact ⟨k + 1, by omega, by go_num, HS.out⟩
        case measure => simp [intOf]; omega
    · obtain rfl : k = n := by omega
      have hR : R = -1 := by rw [← hp.out, Nat.sub_self]; rfl
      subst hR
      clear hp HR
      go_wp2
      go_ret
      exact ⟨rfl, rfl⟩
theorem placeOf_impl (v : Value) (n : Nat) (g : Nat → Int) (x : Int) (w : World) (h : IntRow w v n g) :
    Calls Try.prog 17 #[v, .int .i64 x] w fun e w' => e = .returned (.int .i64 (placeI g x n 0)) ∧ w = w' := by
  have H := Lib.hid (slicesIndex_int v n g x w h)
  generalize placeI g x n 0 = R at *
  clear h
  go_enter Try.func17, Try.ntmps17
  go_wp2_with (go_at_call 44; refine H.out.mono ?_; rintro e w' ⟨rfl, rfl⟩)
  go_ret
  exact ⟨rfl, rfl⟩

/-- block B of w is an array of eight marks that says S -/
def Seen8 (w : World) (B : Nat) (S : Nat → Bool) : Prop := B < w.heap.size ∧ ∀ j, j < 8 → w.cell? ⟨B, j, none⟩ = some (.bool (S j)) ∧ w.frozen? ⟨B, j, none⟩ = false
theorem Seen8.made (w : World) (t : TypeId) : Seen8 (w.alloc (.cells #[.bool false, .bool false, .bool false, .bool false, .bool false, .bool false, .bool false, .bool false] t)) w.heap.size (fun _ => false) := by
  refine ⟨by simp, fun j hj => ⟨?_, ?_⟩⟩
  · rw [cell_of_row _ w.heap.size j _ t (0, 0) (heap_alloc_new w _)]
    have : j = 0 ∨ j = 1 ∨ j = 2 ∨ j = 3 ∨ j = 4 ∨ j = 5 ∨ j = 6 ∨ j = 7 := by omega
    rcases this with rfl | rfl | rfl | rfl | rfl | rfl | rfl | rfl <;> rfl
  · exact frozen_of_row _ w.heap.size j _ t (heap_alloc_new w _)
theorem Seen8.set {w : World} {B : Nat} {S : Nat → Bool} (h : Seen8 w B S) (m : Nat) (hm : m < 8) : Seen8 (w.setCell ⟨B, m, none⟩ (.bool true)) B (fun j => S j || decide (j = m)) := by
  refine ⟨by simpa [World.setCell] using h.1, fun j hj => ⟨?_, (World.frozen?_setCell _ _ _ _).trans (h.2 j hj).2⟩⟩
  by_cases hjm : j = m
  · subst hjm
    rw [World.cell?_setCell_same' _ _ _ (by rw [(h.2 j hj).1]; rfl)]
    simp
  · rw [World.cell?_setCell_other _ _ _ _ (by intro e; simp only [Addr.mk.injEq] at e; omega), (h.2 j hj).1]
    simp [hjm]
theorem isOrder_impl (x : Int) (n : Nat) (g : Nat → Int) (R : Bool) (v : Value) (w : World) (hR : R = true ↔ orderP x n g) (h : IntRow w v n g) :
    Calls Try.prog 15 #[.int .i64 x, v] w fun e w' => e = .returned (.bool R) ∧ Below w.heap.size w w' := by
  obtain ⟨a, cap, rfl, hn, hv⟩ := h.form
  have HV := Lib.hid hv
  have HR := Lib.hid hR
  clear hv h hR
  have HNO : Hid (¬ orderP x n g → R = false) := fun h => by
    cases R with
    | false => rfl
    | true => exact absurd (HR.out.1 rfl) h
  have HYES : Hid (orderP x n g → R = true) := HR.out.2
  clear HR
  by_cases hx0 : x < 0
  · have g1 : decide (x < 0) = true := decide_eq_true hx0
    have hf : R = false := HNO.out fun h => by have := h.1.1; omega
    subst hf
    clear HNO HYES HV
    go_enter Try.func15, Try.ntmps15
    go_wp2
    go_ret
    exact ⟨rfl, Below.refl _ _⟩
  have g1 : decide (x < 0) = false := decide_eq_false hx0
  by_cases hx8 : 8 < x
  · have g2 : decide (8 < x) = true := decide_eq_true hx8
    have hf : R = false := HNO.out fun h => by have := h.1.2; omega
    subst hf
    clear HNO HYES HV
    go_enter Try.func15, Try.ntmps15
    go_wp2
    go_ret
    exact ⟨rfl, Below.refl _ _⟩
  have g2 : decide (8 < x) = false := decide_eq_false hx8
  by_cases hxn : (n : Int) = x
  case neg =>
    have g3 : ((n : Int) == x) = false := by simpa using hxn
    have g4 : ((n : Int) != x) = true := by simpa using hxn
    have hf : R = false := HNO.out fun h => hxn h.2.1
    subst hf
    clear HNO HYES HV hxn
    go_enter Try.func15, Try.ntmps15
    go_wp2
    go_ret
    exact ⟨rfl, Below.refl _ _⟩
  subst hxn
  have hn8 : n ≤ 8 := by omega
  clear g1 g2 hx0 hx8
  have HNO2 : Hid (∀ k, k < n → ¬ ((0 ≤ g k ∧ g k ≤ (n : Int) - 1) ∧ ¬ hasP g (g k) k) → R = false) := fun k hk h => HNO.out fun ho => h (ho.2.2 k hk)
  have HYES2 : Hid ((∀ i, i < n → (0 ≤ g i ∧ g i ≤ (n : Int) - 1) ∧ ¬ hasP g (g i) i) → R = true) := fun h => HYES.out ⟨by omega, rfl, h⟩
  clear HNO HYES
  have g1 : decide ((n : Int) < 0) = false := decide_eq_false (by omega)
  have g2 : decide (8 < (n : Int)) = false := decide_eq_false (by omega)
  go_enter Try.func15, Try.ntmps15
  go_wp2
  clear g1 g2
  have s1 := Seen8.made w 59
  go_loopw [22] (fun i wr => ∃ (k : Nat) (S : Nat → Bool), k ≤ n ∧ i = .int .i64 k ∧ Hid (∀ i, i < k → (0 ≤ g i ∧ g i ≤ (n : Int) - 1) ∧ ¬ hasP g (g i) i) ∧ Seen8 wr w.heap.size S ∧ Hid (∀ j : Nat, S j = true ↔ hasP g j k) ∧ Below w.heap.size w wr) (fun i _ => n - (intOf i).toNat)
  case atStart => exact ⟨0, _, Nat.zero_le _, rfl, fun i hi => absurd hi (by omega), s1, fun j => ⟨fun h => absurd h (by simp), fun ⟨i, hi, _⟩ => absurd hi (by omega)⟩, (Below.refl _ _).alloc (Nat.le_refl _) _⟩
  case round =>
    clear s1
    obtain ⟨k, S, hk, rfl, hall, hS, hSk, hb⟩ := hrel
    by_cases hlt : k < n
    · obtain ⟨b, off, rfl, hc⟩ := HV.out (by omega)
      have c1 := (hb.cell (p := ⟨b, off + k, none⟩) (World.block_lt_of_cell? w _ (hc k hlt))).trans (hc k hlt)
      have HN := Lib.hid (HNO2.out k hlt)
      clear hc HV
      have HY : Hid (((0 ≤ g k ∧ g k ≤ (n : Int) - 1) ∧ ¬ hasP g (g k) k) → ∀ i, i < k + 1 → (0 ≤ g i ∧ g i ≤ (n : Int) - 1) ∧ ¬ hasP g (g i) i) := fun h i hi => by
        by_cases hik : i = k
        · subst hik; exact h
        · exact hall.out i (by omega)
      have HE : Hid (∀ m : Nat, g k = m → ∀ j : Nat, (S j || decide (j = m)) = true ↔ hasP g j (k + 1)) := fun m hm j => by
        simp only [Bool.or_eq_true, decide_eq_true_eq]
        constructor
        · rintro (h | rfl)
          · obtain ⟨i, hi, hij⟩ := (hSk.out j).1 h
            exact ⟨i, by omega, hij⟩
          · exact ⟨k, by omega, hm⟩
        · rintro ⟨i, hi, hij⟩
          by_cases hik : i = k
          · subst hik; right; omega
          · exact .inl ((hSk.out j).2 ⟨i, by omega, hij⟩)
      have HSm : Hid (∀ m : Nat, g k = m → (S m = true ↔ hasP g (g k) k)) := fun m hm => by rw [hm]; exact hSk.out m
      clear hall hSk HNO2 HYES2
      generalize hasP g (g k) k = hp at *
      generalize hy : g k = y at *
      clear hy
      by_cases hy0 : y < 0
      · have g1 : decide (y < 0) = true := decide_eq_true hy0
        have hf : R = false := HN.out fun h => by have := h.1.1; omega
        subst hf
        clear HN HY HE HSm
        go_wp2
        go_ret
        exact ⟨rfl, hb⟩
      have g1 : decide (y < 0) = false := decide_eq_false hy0
      by_cases hyn : (n : Int) ≤ y
      · have g2 : decide ((n : Int) ≤ y) = true := decide_eq_true hyn
        have hf : R = false := HN.out fun h => by have := h.1.2; omega
        subst hf
        clear HN HY HE HSm
        go_wp2
        go_ret
        exact ⟨rfl, hb⟩
      obtain ⟨m, rfl⟩ : ∃ m : Nat, y = m := ⟨y.toNat, by omega⟩
      have hm8 : m < 8 := by omega
      have hm8' : (m : Int) < 8 := by omega
      have hmn : m < n := by omega
      have g1 : decide ((m : Int) < 0) = false := decide_eq_false (by omega)
      have g2 : decide ((n : Int) ≤ m) = false := decide_eq_false (by omega)
      have g3 : decide (n ≤ m) = false := decide_eq_false (by omega)
      obtain ⟨e1, f1⟩ := hS.2 m hm8
      by_cases hSm : S m = true
      · rw [hSm] at e1
        have hf : R = false := HN.out fun h => h.2 ((HSm.out m rfl).1 hSm)
        subst hf
        clear HN HY HE HSm hSm
        go_wp2
        go_ret
        exact ⟨rfl, hb⟩
      · have hSm' : S m = false := by simpa using hSm
        rw [hSm'] at e1
        have HY2 := Lib.hid (HY.out ⟨by omega, fun h => hSm ((HSm.out m rfl).2 h)⟩)
        have HS2 := Lib.hid (hS.set m hm8)
        have HE2 := Lib.hid (HE.out m rfl)
        clear HN HY HE HSm hSm hSm' hS
        go_wp2
        go_roundw
        case rel => exact ⟨k + 1, _, by omega, by go_num, HY2.out, HS2.out, HE2.out, hb.setCell (Nat.le_refl _) _⟩
        case measure => simp [intOf]; omega
    · obtain rfl : k = n := by omega
      have hf : R = true := HYES2.out hall.out
      subst hf
      clear HNO2 HYES2 hall hSk hS
      go_wp2
      go_ret
      exact ⟨rfl, hb⟩
end Go.Proofs.Ytmghnhjfkecaaaa
