/-
  Rule books: FaultOf of the model and of the program.
-/
import Derived.Test.YtcfolfjpimolaaaFault
set_option linter.unusedVariables false
namespace Go.Proofs.Ytcfolfjpimolaaa
open Go.RowKit

/-- s is the fault of the rules -/
def faultP (win draw loss : Int) (n : Nat) (g : Nat → Int) (s : ByteArray) : Prop :=
  (¬ rulesP win draw loss n g ∧ s = ⟨#[105, 110, 118, 97, 108, 105, 100]⟩) ∨
  (rulesP win draw loss n g ∧ win = loss ∧ s = ⟨#[112, 111, 105, 110, 116, 108, 101, 115, 115]⟩) ∨
  (rulesP win draw loss n g ∧ win ≠ loss ∧ ¬ hasP g 8 n ∧ s = ⟨#[117, 110, 100, 101, 99, 105, 100, 101, 100]⟩) ∨
  (rulesP win draw loss n g ∧ win ≠ loss ∧ hasP g 8 n ∧ g (n - 1) ≠ 8 ∧ s = ⟨#[100, 101, 97, 100]⟩) ∨
  (rulesP win draw loss n g ∧ win ≠ loss ∧ hasP g 8 n ∧ g (n - 1) = 8 ∧ ¬ lateP n g ∧ s = ⟨#[101, 97, 114, 108, 121]⟩) ∨
  (rulesP win draw loss n g ∧ win ≠ loss ∧ hasP g 8 n ∧ g (n - 1) = 8 ∧ lateP n g ∧ s = ⟨#[110, 111, 110, 101]⟩)
theorem faultP_some (win draw loss : Int) (n : Nat) (g : Nat → Int) : ∃ s, faultP win draw loss n g s := by
  unfold faultP
  by_cases h1 : rulesP win draw loss n g
  · by_cases h2 : win = loss
    · exact ⟨_, .inr (.inl ⟨h1, h2, rfl⟩)⟩
    by_cases h3 : hasP g 8 n
    · by_cases h4 : g (n - 1) = 8
      · by_cases h5 : lateP n g
        · exact ⟨_, .inr (.inr (.inr (.inr (.inr ⟨h1, h2, h3, h4, h5, rfl⟩))))⟩
        · exact ⟨_, .inr (.inr (.inr (.inr (.inl ⟨h1, h2, h3, h4, h5, rfl⟩))))⟩
      · exact ⟨_, .inr (.inr (.inr (.inl ⟨h1, h2, h3, h4, rfl⟩)))⟩
    · exact ⟨_, .inr (.inr (.inl ⟨h1, h2, h3, rfl⟩))⟩
  · exact ⟨_, .inl ⟨h1, rfl⟩⟩
theorem faultOf_spec (win draw loss : Int) (ag : Bool) (v : Value) (n : Nat) (g : Nat → Int) (s : ByteArray) (w : World) (hs : faultP win draw loss n g s) (h : IntRow w v n g) :
    Calls Try.prog 29 #[.agg #[.int .i64 win, .int .i64 draw, .int .i64 loss, v, .bool ag]] w fun e w' => e = .returned (.string s) ∧ Below w.heap.size w w' := by
  have HW := Lib.hid h
  rcases hs with ⟨h1, hs⟩ | ⟨h1, h2, hs⟩ | ⟨h1, h2, h3, hs⟩ | ⟨h1, h2, h3, h4, hs⟩ | ⟨h1, h2, h3, h4, h5, hs⟩ | ⟨h1, h2, h3, h4, h5, hs⟩
  · subst hs
    have C1 := Lib.hid (fun w1 h0 => rulesOk_spec win draw loss ag false v n g w1 ⟨(fun h => by cases h), fun h => absurd h h1⟩ h0)
    clear h h1
    go_enter Try.func29, Try.ntmps29
    go_wp2_with fail
    refine (C1.out _ (HW.out.below ((Below.refl _ w).alloc (Nat.le_refl _) _) (Nat.le_refl _))).mono ?_
    rintro e w1 ⟨rfl, b1⟩
    have K1 := Lib.hid (cells5 b1)
    replace b1 := ((Below.refl _ w).alloc (Nat.le_refl _) _).trans (b1.mono (by simp))
    go_wp2
    go_ret
    exact ⟨rfl, b1⟩
  · subst hs
    have C1 := Lib.hid (fun w1 h0 => rulesOk_spec win draw loss ag true v n g w1 ⟨fun _ => h1, fun _ => rfl⟩ h0)
    subst h2
    clear h h1
    go_enter Try.func29, Try.ntmps29
    go_wp2_with fail
    refine (C1.out _ (HW.out.below ((Below.refl _ w).alloc (Nat.le_refl _) _) (Nat.le_refl _))).mono ?_
    rintro e w1 ⟨rfl, b1⟩
    have K1 := Lib.hid (cells5 b1)
    replace b1 := ((Below.refl _ w).alloc (Nat.le_refl _) _).trans (b1.mono (by simp))
    obtain ⟨k0, k1, k2, k3, k4⟩ := K1.out
    go_wp2
    go_ret
    exact ⟨rfl, b1⟩
  · subst hs
    have C1 := Lib.hid (fun w1 h0 => rulesOk_spec win draw loss ag true v n g w1 ⟨fun _ => h1, fun _ => rfl⟩ h0)
    have C2 := Lib.hid (fun w1 h0 => isDecisive_spec win draw loss ag false v n g w1 ⟨(fun h => by cases h), fun h => absurd h.2 h3⟩ h0)
    have e2 : (win == loss) = false := beq_eq_false_iff_ne.2 h2
    clear h h1 h2 h3
    go_enter Try.func29, Try.ntmps29
    go_wp2_with fail
    refine (C1.out _ (HW.out.below ((Below.refl _ w).alloc (Nat.le_refl _) _) (Nat.le_refl _))).mono ?_
    rintro e w1 ⟨rfl, b1⟩
    have K1 := Lib.hid (cells5 b1)
    replace b1 := ((Below.refl _ w).alloc (Nat.le_refl _) _).trans (b1.mono (by simp))
    obtain ⟨k0, k1, k2, k3, k4⟩ := K1.out
    go_wp2_with fail
    refine (C2.out _ (HW.out.below b1 (Nat.le_refl _))).mono ?_
    rintro e w2 ⟨rfl, b2⟩
    have K2 := Lib.hid (cells5_below K1.out b2)
    replace b2 := b1.trans (b2.mono b1.size)
    clear k0 k1 k2 k3 k4
    obtain ⟨k0, k1, k2, k3, k4⟩ := K2.out
    go_wp2
    go_ret
    exact ⟨rfl, b2⟩
  · subst hs
    have C1 := Lib.hid (fun w1 h0 => rulesOk_spec win draw loss ag true v n g w1 ⟨fun _ => h1, fun _ => rfl⟩ h0)
    have C2 := Lib.hid (fun w1 h0 => isDecisive_spec win draw loss ag true v n g w1 ⟨fun _ => ⟨h1, h3⟩, fun _ => rfl⟩ h0)
    have e2 : (win == loss) = false := beq_eq_false_iff_ne.2 h2
    obtain ⟨b, off, cap, rfl, h0, hn, hc, hcap⟩ : ∃ b off cap, v = .slice (some ⟨b, off, none⟩) n cap ∧ 0 < n ∧ n ≤ 9223372036854775807 ∧ (∀ i, i < n → w.cell? ⟨b, off + i, none⟩ = some (.int .i64 (g i))) ∧ n ≤ cap := by
      rcases h with ⟨a, cap, rfl, rfl⟩ | h
      · have := h1.2.2.2.1; omega
      · exact h
    obtain ⟨m, rfl⟩ : ∃ m, n = m + 1 := ⟨n - 1, by omega⟩
    have c1 := hc m (by omega)
    have hblt : b < w.heap.size := World.block_lt_of_cell? w _ c1
    have e4 : (g m != 8) = true := bne_iff_ne.2 h4
    generalize g m = x at c1 e4
    clear hc h4
    clear h h1 h2 h3
    go_enter Try.func29, Try.ntmps29
    go_wp2_with fail
    refine (C1.out _ (HW.out.below ((Below.refl _ w).alloc (Nat.le_refl _) _) (Nat.le_refl _))).mono ?_
    rintro e w1 ⟨rfl, b1⟩
    have K1 := Lib.hid (cells5 b1)
    replace b1 := ((Below.refl _ w).alloc (Nat.le_refl _) _).trans (b1.mono (by simp))
    obtain ⟨k0, k1, k2, k3, k4⟩ := K1.out
    have c2 := (b1.cell (p := ⟨b, off + m, none⟩) hblt).trans c1
    go_wp2_with fail
    refine (C2.out _ (HW.out.below b1 (Nat.le_refl _))).mono ?_
    rintro e w2 ⟨rfl, b2⟩
    have K2 := Lib.hid (cells5_below K1.out b2)
    replace b2 := b1.trans (b2.mono b1.size)
    clear k0 k1 k2 k3 k4
    obtain ⟨k0, k1, k2, k3, k4⟩ := K2.out
    have c3 := (b2.cell (p := ⟨b, off + m, none⟩) hblt).trans c1
    clear c1 c2
    go_wp2
    go_ret
    exact ⟨rfl, b2⟩
  · subst hs
    have C1 := Lib.hid (fun w1 h0 => rulesOk_spec win draw loss ag true v n g w1 ⟨fun _ => h1, fun _ => rfl⟩ h0)
    have C2 := Lib.hid (fun w1 h0 => isDecisive_spec win draw loss ag true v n g w1 ⟨fun _ => ⟨h1, h3⟩, fun _ => rfl⟩ h0)
    have e2 : (win == loss) = false := beq_eq_false_iff_ne.2 h2
    obtain ⟨b, off, cap, rfl, h0, hn, hc, hcap⟩ : ∃ b off cap, v = .slice (some ⟨b, off, none⟩) n cap ∧ 0 < n ∧ n ≤ 9223372036854775807 ∧ (∀ i, i < n → w.cell? ⟨b, off + i, none⟩ = some (.int .i64 (g i))) ∧ n ≤ cap := by
      rcases h with ⟨a, cap, rfl, rfl⟩ | h
      · have := h1.2.2.2.1; omega
      · exact h
    obtain ⟨m, rfl⟩ : ∃ m, n = m + 1 := ⟨n - 1, by omega⟩
    have c1 := hc m (by omega)
    have hblt : b < w.heap.size := World.block_lt_of_cell? w _ c1
    rw [show g m = 8 from h4] at c1
    have C3 := Lib.hid (fun w1 h0 => early_spec win draw loss ag true (.slice (some ⟨b, off, none⟩) (m + 1) cap) (m + 1) g w1 ⟨(fun h => by cases h), fun h => absurd h h5⟩ h0)
    clear hc h4 h5
    clear h h1 h2 h3
    go_enter Try.func29, Try.ntmps29
    go_wp2_with fail
    refine (C1.out _ (HW.out.below ((Below.refl _ w).alloc (Nat.le_refl _) _) (Nat.le_refl _))).mono ?_
    rintro e w1 ⟨rfl, b1⟩
    have K1 := Lib.hid (cells5 b1)
    replace b1 := ((Below.refl _ w).alloc (Nat.le_refl _) _).trans (b1.mono (by simp))
    obtain ⟨k0, k1, k2, k3, k4⟩ := K1.out
    have c2 := (b1.cell (p := ⟨b, off + m, none⟩) hblt).trans c1
    go_wp2_with fail
    refine (C2.out _ (HW.out.below b1 (Nat.le_refl _))).mono ?_
    rintro e w2 ⟨rfl, b2⟩
    have K2 := Lib.hid (cells5_below K1.out b2)
    replace b2 := b1.trans (b2.mono b1.size)
    clear k0 k1 k2 k3 k4
    obtain ⟨k0, k1, k2, k3, k4⟩ := K2.out
    have c3 := (b2.cell (p := ⟨b, off + m, none⟩) hblt).trans c1
    clear c1 c2
    go_wp2_with fail
    refine (C3.out _ (HW.out.below b2 (Nat.le_refl _))).mono ?_
    rintro e w3 ⟨rfl, b3⟩
    replace b3 := b2.trans (b3.mono b2.size)
    go_wp2
    go_ret
    exact ⟨rfl, b3⟩
  · subst hs
    have C1 := Lib.hid (fun w1 h0 => rulesOk_spec win draw loss ag true v n g w1 ⟨fun _ => h1, fun _ => rfl⟩ h0)
    have C2 := Lib.hid (fun w1 h0 => isDecisive_spec win draw loss ag true v n g w1 ⟨fun _ => ⟨h1, h3⟩, fun _ => rfl⟩ h0)
    have e2 : (win == loss) = false := beq_eq_false_iff_ne.2 h2
    obtain ⟨b, off, cap, rfl, h0, hn, hc, hcap⟩ : ∃ b off cap, v = .slice (some ⟨b, off, none⟩) n cap ∧ 0 < n ∧ n ≤ 9223372036854775807 ∧ (∀ i, i < n → w.cell? ⟨b, off + i, none⟩ = some (.int .i64 (g i))) ∧ n ≤ cap := by
      rcases h with ⟨a, cap, rfl, rfl⟩ | h
      · have := h1.2.2.2.1; omega
      · exact h
    obtain ⟨m, rfl⟩ : ∃ m, n = m + 1 := ⟨n - 1, by omega⟩
    have c1 := hc m (by omega)
    have hblt : b < w.heap.size := World.block_lt_of_cell? w _ c1
    rw [show g m = 8 from h4] at c1
    have C3 := Lib.hid (fun w1 h0 => early_spec win draw loss ag false (.slice (some ⟨b, off, none⟩) (m + 1) cap) (m + 1) g w1 ⟨fun _ => h5, fun _ => rfl⟩ h0)
    clear hc h4 h5
    clear h h1 h2 h3
    go_enter Try.func29, Try.ntmps29
    go_wp2_with fail
    refine (C1.out _ (HW.out.below ((Below.refl _ w).alloc (Nat.le_refl _) _) (Nat.le_refl _))).mono ?_
    rintro e w1 ⟨rfl, b1⟩
    have K1 := Lib.hid (cells5 b1)
    replace b1 := ((Below.refl _ w).alloc (Nat.le_refl _) _).trans (b1.mono (by simp))
    obtain ⟨k0, k1, k2, k3, k4⟩ := K1.out
    have c2 := (b1.cell (p := ⟨b, off + m, none⟩) hblt).trans c1
    go_wp2_with fail
    refine (C2.out _ (HW.out.below b1 (Nat.le_refl _))).mono ?_
    rintro e w2 ⟨rfl, b2⟩
    have K2 := Lib.hid (cells5_below K1.out b2)
    replace b2 := b1.trans (b2.mono b1.size)
    clear k0 k1 k2 k3 k4
    obtain ⟨k0, k1, k2, k3, k4⟩ := K2.out
    have c3 := (b2.cell (p := ⟨b, off + m, none⟩) hblt).trans c1
    clear c1 c2
    go_wp2_with fail
    refine (C3.out _ (HW.out.below b2 (Nat.le_refl _))).mono ?_
    rintro e w3 ⟨rfl, b3⟩
    replace b3 := b2.trans (b3.mono b2.size)
    go_wp2
    go_ret
    exact ⟨rfl, b3⟩
theorem faultOf_impl (win draw loss : Int) (ag : Bool) (v : Value) (n : Nat) (g : Nat → Int) (s : ByteArray) (w : World) (hs : faultP win draw loss n g s) (h : IntRow w v n g) :
    Calls Try.prog 15 #[.agg #[.int .i64 win, .int .i64 draw, .int .i64 loss, v, .bool ag]] w fun e w' => e = .returned (.string s) ∧ Below w.heap.size w w' := by
  have HW := Lib.hid h
  rcases hs with ⟨h1, hs⟩ | ⟨h1, h2, hs⟩ | ⟨h1, h2, h3, hs⟩ | ⟨h1, h2, h3, h4, hs⟩ | ⟨h1, h2, h3, h4, h5, hs⟩ | ⟨h1, h2, h3, h4, h5, hs⟩
  · subst hs
    have C1 := Lib.hid (fun w1 h0 => rulesOk_impl win draw loss ag false v n g w1 ⟨(fun h => by cases h), fun h => absurd h h1⟩ h0)
    clear h h1
    go_enter Try.func15, Try.ntmps15
    go_wp2_with fail
    refine (C1.out _ (HW.out.below ((Below.refl _ w).alloc (Nat.le_refl _) _) (Nat.le_refl _))).mono ?_
    rintro e w1 ⟨rfl, b1⟩
    have K1 := Lib.hid (cells5 b1)
    replace b1 := ((Below.refl _ w).alloc (Nat.le_refl _) _).trans (b1.mono (by simp))
    go_wp2
    go_ret
    exact ⟨rfl, b1⟩
  · subst hs
    have C1 := Lib.hid (fun w1 h0 => rulesOk_impl win draw loss ag true v n g w1 ⟨fun _ => h1, fun _ => rfl⟩ h0)
    subst h2
    obtain rfl : draw = win := by obtain ⟨_, ⟨_, a2⟩, ⟨_, a3⟩, _⟩ := h1; omega
    clear h h1
    go_enter Try.func15, Try.ntmps15
    go_wp2_with fail
    refine (C1.out _ (HW.out.below ((Below.refl _ w).alloc (Nat.le_refl _) _) (Nat.le_refl _))).mono ?_
    rintro e w1 ⟨rfl, b1⟩
    have K1 := Lib.hid (cells5 b1)
    replace b1 := ((Below.refl _ w).alloc (Nat.le_refl _) _).trans (b1.mono (by simp))
    obtain ⟨k0, k1, k2, k3, k4⟩ := K1.out
    go_wp2
    go_ret
    exact ⟨rfl, b1⟩
  · subst hs
    have C1 := Lib.hid (fun w1 h0 => rulesOk_impl win draw loss ag true v n g w1 ⟨fun _ => h1, fun _ => rfl⟩ h0)
    have C2 := Lib.hid (fun w1 h0 => isDecisive_impl win draw loss ag false v n g w1 ⟨(fun h => by cases h), fun h => absurd h.2 h3⟩ h0)
    have e2 : (win == loss) = false := beq_eq_false_iff_ne.2 h2
    have e3 : (win == draw) = false ∨ (win == draw) = true ∧ (draw == loss) = false := by simp only [beq_iff_eq, beq_eq_false_iff_ne]; omega
    clear h h1 h2 h3
    rcases e3 with e3 | ⟨e3, e4'⟩
    all_goals
      go_enter Try.func15, Try.ntmps15
      go_wp2_with fail
      refine (C1.out _ (HW.out.below ((Below.refl _ w).alloc (Nat.le_refl _) _) (Nat.le_refl _))).mono ?_
      rintro e w1 ⟨rfl, b1⟩
      have K1 := Lib.hid (cells5 b1)
      replace b1 := ((Below.refl _ w).alloc (Nat.le_refl _) _).trans (b1.mono (by simp))
      obtain ⟨k0, k1, k2, k3, k4⟩ := K1.out
      go_wp2_with fail
      refine (C2.out _ (HW.out.below b1 (Nat.le_refl _))).mono ?_
      rintro e w2 ⟨rfl, b2⟩
      have K2 := Lib.hid (cells5_below K1.out b2)
      replace b2 := b1.trans (b2.mono b1.size)
      clear k0 k1 k2 k3 k4
      obtain ⟨k0, k1, k2, k3, k4⟩ := K2.out
      go_wp2
      go_ret
      exact ⟨rfl, b2⟩
  · subst hs
    have C1 := Lib.hid (fun w1 h0 => rulesOk_impl win draw loss ag true v n g w1 ⟨fun _ => h1, fun _ => rfl⟩ h0)
    have C2 := Lib.hid (fun w1 h0 => isDecisive_impl win draw loss ag true v n g w1 ⟨fun _ => ⟨h1, h3⟩, fun _ => rfl⟩ h0)
    have e2 : (win == loss) = false := beq_eq_false_iff_ne.2 h2
    have e3 : (win == draw) = false ∨ (win == draw) = true ∧ (draw == loss) = false := by simp only [beq_iff_eq, beq_eq_false_iff_ne]; omega
    obtain ⟨b, off, cap, rfl, h0, hn, hc, hcap⟩ : ∃ b off cap, v = .slice (some ⟨b, off, none⟩) n cap ∧ 0 < n ∧ n ≤ 9223372036854775807 ∧ (∀ i, i < n → w.cell? ⟨b, off + i, none⟩ = some (.int .i64 (g i))) ∧ n ≤ cap := by
      rcases h with ⟨a, cap, rfl, rfl⟩ | h
      · have := h1.2.2.2.1; omega
      · exact h
    obtain ⟨m, rfl⟩ : ∃ m, n = m + 1 := ⟨n - 1, by omega⟩
    have c1 := hc m (by omega)
    have hblt : b < w.heap.size := World.block_lt_of_cell? w _ c1
    have e4 : (g m != 8) = true := bne_iff_ne.2 h4
    generalize g m = x at c1 e4
    clear hc h4
    clear h h1 h2 h3
    rcases e3 with e3 | ⟨e3, e4'⟩
    all_goals
      go_enter Try.func15, Try.ntmps15
      go_wp2_with fail
      refine (C1.out _ (HW.out.below ((Below.refl _ w).alloc (Nat.le_refl _) _) (Nat.le_refl _))).mono ?_
      rintro e w1 ⟨rfl, b1⟩
      have K1 := Lib.hid (cells5 b1)
      replace b1 := ((Below.refl _ w).alloc (Nat.le_refl _) _).trans (b1.mono (by simp))
      obtain ⟨k0, k1, k2, k3, k4⟩ := K1.out
      have c2 := (b1.cell (p := ⟨b, off + m, none⟩) hblt).trans c1
      go_wp2_with fail
      refine (C2.out _ (HW.out.below b1 (Nat.le_refl _))).mono ?_
      rintro e w2 ⟨rfl, b2⟩
      have K2 := Lib.hid (cells5_below K1.out b2)
      replace b2 := b1.trans (b2.mono b1.size)
      clear k0 k1 k2 k3 k4
      obtain ⟨k0, k1, k2, k3, k4⟩ := K2.out
      have c3 := (b2.cell (p := ⟨b, off + m, none⟩) hblt).trans c1
      clear c1 c2
      go_wp2
      go_ret
      exact ⟨rfl, b2⟩
  · subst hs
    have C1 := Lib.hid (fun w1 h0 => rulesOk_impl win draw loss ag true v n g w1 ⟨fun _ => h1, fun _ => rfl⟩ h0)
    have C2 := Lib.hid (fun w1 h0 => isDecisive_impl win draw loss ag true v n g w1 ⟨fun _ => ⟨h1, h3⟩, fun _ => rfl⟩ h0)
    have e2 : (win == loss) = false := beq_eq_false_iff_ne.2 h2
    have e3 : (win == draw) = false ∨ (win == draw) = true ∧ (draw == loss) = false := by simp only [beq_iff_eq, beq_eq_false_iff_ne]; omega
    obtain ⟨b, off, cap, rfl, h0, hn, hc, hcap⟩ : ∃ b off cap, v = .slice (some ⟨b, off, none⟩) n cap ∧ 0 < n ∧ n ≤ 9223372036854775807 ∧ (∀ i, i < n → w.cell? ⟨b, off + i, none⟩ = some (.int .i64 (g i))) ∧ n ≤ cap := by
      rcases h with ⟨a, cap, rfl, rfl⟩ | h
      · have := h1.2.2.2.1; omega
      · exact h
    obtain ⟨m, rfl⟩ : ∃ m, n = m + 1 := ⟨n - 1, by omega⟩
    have c1 := hc m (by omega)
    have hblt : b < w.heap.size := World.block_lt_of_cell? w _ c1
    rw [show g m = 8 from h4] at c1
    have C3 := Lib.hid (fun w1 h0 => early_impl true (.slice (some ⟨b, off, none⟩) (m + 1) cap) (m + 1) g w1 ⟨(fun h => by cases h), fun h => absurd h h5⟩ h0)
    clear hc h4 h5
    clear h h1 h2 h3
    rcases e3 with e3 | ⟨e3, e4'⟩
    all_goals
      go_enter Try.func15, Try.ntmps15
      go_wp2_with fail
      refine (C1.out _ (HW.out.below ((Below.refl _ w).alloc (Nat.le_refl _) _) (Nat.le_refl _))).mono ?_
      rintro e w1 ⟨rfl, b1⟩
      have K1 := Lib.hid (cells5 b1)
      replace b1 := ((Below.refl _ w).alloc (Nat.le_refl _) _).trans (b1.mono (by simp))
      obtain ⟨k0, k1, k2, k3, k4⟩ := K1.out
      have c2 := (b1.cell (p := ⟨b, off + m, none⟩) hblt).trans c1
      go_wp2_with fail
      refine (C2.out _ (HW.out.below b1 (Nat.le_refl _))).mono ?_
      rintro e w2 ⟨rfl, b2⟩
      have K2 := Lib.hid (cells5_below K1.out b2)
      replace b2 := b1.trans (b2.mono b1.size)
      clear k0 k1 k2 k3 k4
      obtain ⟨k0, k1, k2, k3, k4⟩ := K2.out
      have c3 := (b2.cell (p := ⟨b, off + m, none⟩) hblt).trans c1
      clear c1 c2
      go_wp2_with fail
      refine (C3.out _ (HW.out.below b2 (Nat.le_refl _))).mono ?_
      rintro e w3 ⟨rfl, rfl⟩
      go_wp2
      go_ret
      exact ⟨rfl, b2⟩
  · subst hs
    have C1 := Lib.hid (fun w1 h0 => rulesOk_impl win draw loss ag true v n g w1 ⟨fun _ => h1, fun _ => rfl⟩ h0)
    have C2 := Lib.hid (fun w1 h0 => isDecisive_impl win draw loss ag true v n g w1 ⟨fun _ => ⟨h1, h3⟩, fun _ => rfl⟩ h0)
    have e2 : (win == loss) = false := beq_eq_false_iff_ne.2 h2
    have e3 : (win == draw) = false ∨ (win == draw) = true ∧ (draw == loss) = false := by simp only [beq_iff_eq, beq_eq_false_iff_ne]; omega
    obtain ⟨b, off, cap, rfl, h0, hn, hc, hcap⟩ : ∃ b off cap, v = .slice (some ⟨b, off, none⟩) n cap ∧ 0 < n ∧ n ≤ 9223372036854775807 ∧ (∀ i, i < n → w.cell? ⟨b, off + i, none⟩ = some (.int .i64 (g i))) ∧ n ≤ cap := by
      rcases h with ⟨a, cap, rfl, rfl⟩ | h
      · have := h1.2.2.2.1; omega
      · exact h
    obtain ⟨m, rfl⟩ : ∃ m, n = m + 1 := ⟨n - 1, by omega⟩
    have c1 := hc m (by omega)
    have hblt : b < w.heap.size := World.block_lt_of_cell? w _ c1
    rw [show g m = 8 from h4] at c1
    have C3 := Lib.hid (fun w1 h0 => early_impl false (.slice (some ⟨b, off, none⟩) (m + 1) cap) (m + 1) g w1 ⟨fun _ => h5, fun _ => rfl⟩ h0)
    clear hc h4 h5
    clear h h1 h2 h3
    rcases e3 with e3 | ⟨e3, e4'⟩
    all_goals
      go_enter Try.func15, Try.ntmps15
      go_wp2_with fail
      refine (C1.out _ (HW.out.below ((Below.refl _ w).alloc (Nat.le_refl _) _) (Nat.le_refl _))).mono ?_
      rintro e w1 ⟨rfl, b1⟩
      have K1 := Lib.hid (cells5 b1)
      replace b1 := ((Below.refl _ w).alloc (Nat.le_refl _) _).trans (b1.mono (by simp))
      obtain ⟨k0, k1, k2, k3, k4⟩ := K1.out
      have c2 := (b1.cell (p := ⟨b, off + m, none⟩) hblt).trans c1
      go_wp2_with fail
      refine (C2.out _ (HW.out.below b1 (Nat.le_refl _))).mono ?_
      rintro e w2 ⟨rfl, b2⟩
      have K2 := Lib.hid (cells5_below K1.out b2)
      replace b2 := b1.trans (b2.mono b1.size)
      clear k0 k1 k2 k3 k4
      obtain ⟨k0, k1, k2, k3, k4⟩ := K2.out
      have c3 := (b2.cell (p := ⟨b, off + m, none⟩) hblt).trans c1
      clear c1 c2
      go_wp2_with fail
      refine (C3.out _ (HW.out.below b2 (Nat.le_refl _))).mono ?_
      rintro e w3 ⟨rfl, rfl⟩
      go_wp2
      go_ret
      exact ⟨rfl, b2⟩
end Go.Proofs.Ytcfolfjpimolaaa
