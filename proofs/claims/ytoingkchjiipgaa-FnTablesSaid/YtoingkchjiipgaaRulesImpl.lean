/-
  Rule books: RulesOk, IsDecisive of the program.
-/
import Derived.Test.YtoingkchjiipgaaRulesOk
set_option linter.unusedVariables false
namespace Go.Proofs.Ytoingkchjiipgaa
open Go.RowKit

/-- block B of w is an array of K marks that says S -/
def SeenN (K : Nat) (w : World) (B : Nat) (S : Nat → Bool) : Prop := B < w.heap.size ∧ ∀ j, j < K → w.cell? ⟨B, j, none⟩ = some (.bool (S j)) ∧ w.frozen? ⟨B, j, none⟩ = false
theorem SeenN.made (K : Nat) (w : World) (cs : Array Value) (t : TypeId) (h : ∀ j, j < K → cs[j]? = some (.bool false)) : SeenN K (w.alloc (.cells cs t)) w.heap.size (fun _ => false) := by
  refine ⟨by simp, fun j hj => ⟨?_, ?_⟩⟩
  · rw [cell_of_row _ w.heap.size j _ t (0, 0) (heap_alloc_new w _)]
    exact h j hj
  · exact frozen_of_row _ w.heap.size j _ t (heap_alloc_new w _)
theorem SeenN.set {K : Nat} {w : World} {B : Nat} {S : Nat → Bool} (h : SeenN K w B S) (m : Nat) (hm : m < K) : SeenN K (w.setCell ⟨B, m, none⟩ (.bool true)) B (fun j => S j || decide (j = m)) := by
  refine ⟨by simpa [World.setCell] using h.1, fun j hj => ⟨?_, (World.frozen?_setCell _ _ _ _).trans (h.2 j hj).2⟩⟩
  by_cases hjm : j = m
  · subst hjm
    rw [World.cell?_setCell_same' _ _ _ (by rw [(h.2 j hj).1]; rfl)]
    simp
  · rw [World.cell?_setCell_other _ _ _ _ (by intro e; simp only [Addr.mk.injEq] at e; omega), (h.2 j hj).1]
    simp [hjm]
/-- so many different numbers from 1 to m are at most m -/
theorem pigeon (m : Nat) : ∀ (k : Nat) (g : Nat → Int), (∀ i, i < k → 1 ≤ g i ∧ g i ≤ m) → (∀ i j, i < j → j < k → g i ≠ g j) → k ≤ m := by
  induction m with
  | zero => intro k g h _; by_cases h0 : k = 0; · omega
            · have := h 0 (by omega); omega
  | succ m ih =>
    intro k g h hd
    by_cases hx : ∃ i, i < k ∧ g i = m + 1
    · obtain ⟨i0, hi0, he⟩ := hx
      have hk1 := ih (k - 1) (fun i => if i = i0 then g (k - 1) else g i) (fun i hi => by
          by_cases e : i = i0
          · simp only [e, if_true]
            have h1 := h (k - 1) (by omega)
            have h2 := hd i0 (k - 1) (by omega) (by omega)
            omega
          · simp only [e, if_false]
            have h1 := h i (by omega)
            have h2 : g i ≠ g i0 := by
              by_cases hlt : i < i0
              · exact hd i i0 hlt hi0
              · exact fun hh => hd i0 i (by omega) (by omega) hh.symm
            omega)
        (fun i j hij hj => by
          by_cases e : i = i0
          · by_cases e2 : j = i0
            · omega
            · simp only [e, e2, if_true, if_false]
              exact fun hh => hd j (k - 1) (by omega) (by omega) hh.symm
          · by_cases e2 : j = i0
            · simp only [e, e2, if_true, if_false]
              exact hd i (k - 1) (by omega) (by omega)
            · simp only [e, e2, if_false]
              exact hd i j hij (by omega))
      omega
    · have := ih k g (fun i hi => by
        have h1 := h i hi
        have h2 : g i ≠ m + 1 := fun he => hx ⟨i, hi, he⟩
        omega) hd
      omega
theorem pigeon8 {k : Nat} {g : Nat → Int} (h : ∀ i, i < k → (1 ≤ g i ∧ g i ≤ 8) ∧ ¬ hasP g (g i) i) : k ≤ 8 :=
  pigeon 8 k g (fun i hi => by have := (h i hi).1; omega) (fun i j hij hj he => (h j hj).2 ⟨i, hij, he⟩)
theorem knm_ne (m : Nat) (h1 : 1 ≤ m) (h8 : m ≤ 8) : (knm m).toList.isEmpty = false ∧ (knm m).toList ≠ [] := by
  have : m = 1 ∨ m = 2 ∨ m = 3 ∨ m = 4 ∨ m = 5 ∨ m = 6 ∨ m = 7 ∨ m = 8 := by omega
  rcases this with rfl | rfl | rfl | rfl | rfl | rfl | rfl | rfl <;> exact ⟨by decide +kernel, by decide +kernel⟩
set_option maxRecDepth 100000 in
theorem isLadder_impl (n : Nat) (g : Nat → Int) (R : Bool) (v : Value) (w : World) (hR : R = true ↔ ladP n g) (h : IntRow w v n g) :
    Calls Try.prog 83 #[v] w fun e w' => e = .returned (.bool R) ∧ Below w.heap.size w w' := by
  obtain ⟨a, cap, rfl, hn, hv⟩ := h.form
  have HV := Lib.hid hv
  have HR := Lib.hid hR
  clear hv h hR
  have HNO2 : Hid (∀ k, k < n → ¬ ((1 ≤ g k ∧ g k ≤ 8) ∧ ¬ hasP g (g k) k) → R = false) := fun k hk h => by
    cases R with
    | false => rfl
    | true => exact absurd ((HR.out.1 rfl).2 k hk) h
  have HYES2 : Hid (0 < n → (∀ i, i < n → (1 ≤ g i ∧ g i ≤ 8) ∧ ¬ hasP g (g i) i) → R = true) := fun h0 h => HR.out.2 ⟨⟨by omega, by have := pigeon8 h; omega⟩, h⟩
  have HZ : Hid (n = 0 → R = false) := fun h0 => by
    cases R with
    | false => rfl
    | true => have := (HR.out.1 rfl).1; omega
  clear HR
  go_enter Try.func83, Try.ntmps83
  go_wp2
  have s1 := SeenN.made 9 w #[.bool false, .bool false, .bool false, .bool false, .bool false, .bool false, .bool false, .bool false, .bool false] 123 (fun j hj => by
    have : j = 0 ∨ j = 1 ∨ j = 2 ∨ j = 3 ∨ j = 4 ∨ j = 5 ∨ j = 6 ∨ j = 7 ∨ j = 8 := by omega
    rcases this with rfl | rfl | rfl | rfl | rfl | rfl | rfl | rfl | rfl <;> rfl)
  go_loopw [8] (fun i wr => ∃ (k : Nat) (S : Nat → Bool), k ≤ n ∧ i = .int .i64 k ∧ Hid (∀ i, i < k → (1 ≤ g i ∧ g i ≤ 8) ∧ ¬ hasP g (g i) i) ∧ SeenN 9 wr w.heap.size S ∧ Hid (∀ j : Nat, S j = true ↔ hasP g j k) ∧ Below w.heap.size w wr) (fun i _ => n - (intOf i).toNat)
  case atStart => exact ⟨0, _, Nat.zero_le _, rfl, fun i hi => absurd hi (by omega), s1, fun j => ⟨fun h => absurd h (by simp), fun ⟨i, hi, _⟩ => absurd hi (by omega)⟩, (Below.refl _ _).alloc (Nat.le_refl _) _⟩
  case round =>
    clear s1
    obtain ⟨k, S, hk, rfl, hall, hS, hSk, hb⟩ := hrel
    by_cases hlt : k < n
    · obtain ⟨b, off, rfl, hc⟩ := HV.out (by omega)
      have c1 := (hb.cell (p := ⟨b, off + k, none⟩) (World.block_lt_of_cell? w _ (hc k hlt))).trans (hc k hlt)
      have HN := Lib.hid (HNO2.out k hlt)
      clear hc HV
      have HY : Hid (((1 ≤ g k ∧ g k ≤ 8) ∧ ¬ hasP g (g k) k) → ∀ i, i < k + 1 → (1 ≤ g i ∧ g i ≤ 8) ∧ ¬ hasP g (g i) i) := fun h i hi => by
        by_cases hik : i = k
        · subst hik; exact h
        · exact hall.out i (by omega)
      have HE : Hid (∀ m : Nat, g k = m → ∀ j : Nat, (S j || decide (j = m)) = true ↔ hasP g j (k + 1)) := fun m hm j => by
        simp only [Bool.or_eq_true, decide_eq_true_eq]
        constructor
        · rintro (h | rfl)
          · obtain ⟨i, hi, hij⟩ := (hSk.out j).1 h
            exact ⟨i, by omega, hij⟩
          · exact ⟨k, by omega, hm⟩
        · rintro ⟨i, hi, hij⟩
          by_cases hik : i = k
          · subst hik; right; omega
          · exact .inl ((hSk.out j).2 ⟨i, by omega, hij⟩)
      have HSm : Hid (∀ m : Nat, g k = m → (S m = true ↔ hasP g (g k) k)) := fun m hm => by rw [hm]; exact hSk.out m
      clear hall hSk HNO2 HYES2 HZ
      generalize hasP g (g k) k = hp at *
      generalize hy : g k = y at *
      clear hy
      by_cases hy18 : 1 ≤ y ∧ y ≤ 8
      · obtain ⟨m, rfl⟩ : ∃ m : Nat, y = m := ⟨y.toNat, by omega⟩
        obtain ⟨h1, h8⟩ := hy18
        have hm9 : m < 9 := by omega
        have hm9' : (m : Int) < 9 := by omega
        obtain ⟨e1, f1⟩ := hS.2 m hm9
        have CN := Lib.hid (fun w => keyNameI_yes m w (by omega) (by omega))
        obtain ⟨n1, n2⟩ := knm_ne m (by omega) (by omega)
        generalize knm m = s at *
        by_cases hSm : S m = true
        · rw [hSm] at e1
          have hf : R = false := HN.out fun h => h.2 ((HSm.out m rfl).1 hSm)
          subst hf
          clear HN HY HE HSm hSm
          go_wp2_with (go_at_call 88; refine (CN.out _).mono ?_; rintro e w' ⟨rfl, rfl⟩)
          go_ret
          exact ⟨rfl, hb⟩
        · have hSm' : S m = false := by simpa using hSm
          rw [hSm'] at e1
          have HY2 := Lib.hid (HY.out ⟨⟨by omega, by omega⟩, fun h => hSm ((HSm.out m rfl).2 h)⟩)
          have HS2 := Lib.hid (hS.set m hm9)
          have HE2 := Lib.hid (HE.out m rfl)
          clear HN HY HE HSm hSm hSm' hS
          go_wp2_with (go_at_call 88; refine (CN.out _).mono ?_; rintro e w' ⟨rfl, rfl⟩)
          go_roundw
          case rel => exact ⟨k + 1, _, by omega, by go_num, HY2.out, HS2.out, HE2.out, hb.setCell (Nat.le_refl _) _⟩
          case measure => simp [intOf]; omega
      · have hf : R = false := HN.out fun h => hy18 h.1
        subst hf
        clear HN HY HE HSm
        go_wp2_with (go_at_call 88; refine (keyNameI_no y _ hy18).mono ?_; rintro e w' ⟨rfl, rfl⟩)
        go_ret
        exact ⟨rfl, hb⟩
    · obtain rfl : k = n := by omega
      by_cases h0 : k = 0
      · have hf : R = false := HZ.out h0
        subst hf
        subst h0
        clear HNO2 HYES2 HZ hall hSk hS
        go_wp2
        go_ret
        exact ⟨rfl, hb⟩
      · have h1 : 0 < k := by omega
        have hf : R = true := HYES2.out h1 hall.out
        subst hf
        clear HNO2 HYES2 HZ hall hSk hS
        go_wp2
        go_ret
        exact ⟨rfl, hb⟩
end Go.Proofs.Ytoingkchjiipgaa
