/-
  Packed: SeatCmp, SeatPerm, SeatSort.
-/
import Derived.Deep.DeepCutAuto
import Derived.Test.YtmhkkdnopcdibaaLaysE
import Derived.Deep.RegionHeld3
import Derived.Test.YtmhkkdnopcdibaaQ26
import Derived.Test.YtmhkkdnopcdibaaQ27
set_option linter.unusedVariables false
namespace Go.Proofs.Ytmhkkdnopcdibaa
open Go.RowKit Go.Sort Go.Shelf

def lexC (x y : Nat → Nat) : Nat → Nat → Int
  | _, 0 => 0
  | k, n + 1 => if Lib.compareInt (x k) (y k) = 0 then lexC x y (k + 1) n else Lib.compareInt (x k) (y k)
def lexB (x y : Nat → Nat) : Nat → Nat → Bool
  | _, 0 => false
  | k, n + 1 => decide (x k < y k) || (decide (x k = y k) && lexB x y (k + 1) n)
theorem cmpI_zero (a b : Nat) : Lib.compareInt (a : Int) (b : Int) = 0 ↔ a = b := by
  unfold Lib.compareInt
  by_cases h1 : (a : Int) < (b : Int)
  · rw [if_pos h1]; constructor <;> intro h <;> omega
  · rw [if_neg h1]
    by_cases h2 : (b : Int) < (a : Int)
    · rw [if_pos h2]; constructor <;> intro h <;> omega
    · rw [if_neg h2]; constructor <;> intro h <;> omega
theorem cmpI_neg (a b : Nat) : Lib.compareInt (a : Int) (b : Int) < 0 ↔ a < b := by
  unfold Lib.compareInt
  by_cases h1 : (a : Int) < (b : Int)
  · rw [if_pos h1]; constructor <;> intro h <;> omega
  · rw [if_neg h1]
    by_cases h2 : (b : Int) < (a : Int)
    · rw [if_pos h2]; constructor <;> intro h <;> omega
    · rw [if_neg h2]; constructor <;> intro h <;> omega
theorem lex_lt (x y : Nat → Nat) : ∀ n k, decide (lexC x y k n < 0) = lexB x y k n
  | 0, k => rfl
  | n + 1, k => by
    unfold lexC lexB
    by_cases e : x k = y k
    · rw [if_pos ((cmpI_zero _ _).2 e), lex_lt x y n (k + 1), decide_eq_false (by omega), decide_eq_true e]
      simp
    · have e2 : decide (Lib.compareInt (x k : Int) (y k : Int) < 0) = decide (x k < y k) := decide_eq_decide.2 (cmpI_neg (x k) (y k))
      rw [if_neg (fun h => e ((cmpI_zero _ _).1 h)), decide_eq_false e, e2]
      simp
theorem lex_irrefl (x : Nat → Nat) : ∀ n k, lexB x x k n = false
  | 0, k => rfl
  | n + 1, k => by unfold lexB; rw [lex_irrefl x n (k + 1)]; simp
theorem lex_trans (x y z : Nat → Nat) : ∀ n k, lexB x y k n = true → lexB y z k n = true → lexB x z k n = true
  | 0, k, h, _ => by cases h
  | n + 1, k, h1, h2 => by
    unfold lexB at *
    simp only [Bool.or_eq_true, Bool.and_eq_true, decide_eq_true_eq] at *
    rcases h1 with h1 | ⟨h1, h1'⟩ <;> rcases h2 with h2 | ⟨h2, h2'⟩
    · left; omega
    · left; omega
    · left; omega
    · right; exact ⟨by omega, lex_trans x y z n (k + 1) h1' h2'⟩
theorem lex_ntrans (x y z : Nat → Nat) : ∀ n k, lexB x y k n = false → lexB y z k n = false → lexB x z k n = false
  | 0, k, _, _ => rfl
  | n + 1, k, h1, h2 => by
    unfold lexB at *
    simp only [Bool.or_eq_false_iff, Bool.and_eq_false_iff, decide_eq_false_iff_not] at *
    refine ⟨by omega, ?_⟩
    by_cases e : x k = z k
    · right
      exact lex_ntrans x y z n (k + 1) (h1.2.resolve_left (by omega)) (h2.2.resolve_left (by omega))
    · exact .inl e
def seatCf (x y : Nat → Nat) : Int := lexC x y 0 7
theorem seatLt (x y : Nat → Nat) : ltOf seatCf x y = lexB x y 0 7 := lex_lt x y 7 0
theorem seatSwo : SWO (ltOf seatCf) where
  irrefl x := by rw [seatLt]; exact lex_irrefl x 7 0
  trans x y z h1 h2 := by rw [seatLt] at *; exact lex_trans x y z 7 0 h1 h2
  ntrans x y z h1 h2 := by rw [seatLt] at *; exact lex_ntrans x y z 7 0 h1 h2
def seatE (x : Nat → Nat) : List Value := [.int .i8 (x 0 : Int), .int .i8 (x 1 : Int), .int .i8 (x 2 : Int), .int .i8 (x 3 : Int), .int .i8 (x 4 : Int), .int .i8 (x 5 : Int), .int .i8 (x 6 : Int)]
theorem isNaN8 (a : Int) (w : World) : Calls Try.prog 117 #[.int .i8 a] w fun e w' => e = .returned (.bool false) ∧ w = w' := by
  go_enter Try.func117, Try.ntmps117
  go_wp2
  go_ret
  exact ⟨by simp, rfl⟩
theorem compare8 (a b : Int) (w : World) : Calls Try.prog 103 #[.int .i8 a, .int .i8 b] w fun e w' => e = .returned (.int .i64 (Lib.compareInt a b)) ∧ w = w' := by
  unfold Lib.compareInt
  by_cases h1 : a < b
  · rw [if_pos h1]
    go_enter Try.func103, Try.ntmps103
    go_wp2_with fail
    refine (isNaN8 a w).mono ?_
    rintro e w1 ⟨rfl, rfl⟩
    go_wp2_with fail
    refine (isNaN8 b w).mono ?_
    rintro e w1 ⟨rfl, rfl⟩
    go_wp2
    go_ret
    exact ⟨rfl, rfl⟩
  · rw [if_neg h1]
    by_cases h2 : b < a
    · rw [if_pos h2]
      go_enter Try.func103, Try.ntmps103
      go_wp2_with fail
      refine (isNaN8 a w).mono ?_
      rintro e w1 ⟨rfl, rfl⟩
      go_wp2_with fail
      refine (isNaN8 b w).mono ?_
      rintro e w1 ⟨rfl, rfl⟩
      go_wp2
      go_ret
      exact ⟨rfl, rfl⟩
    · rw [if_neg h2]
      go_enter Try.func103, Try.ntmps103
      go_wp2_with fail
      refine (isNaN8 a w).mono ?_
      rintro e w1 ⟨rfl, rfl⟩
      go_wp2_with fail
      refine (isNaN8 b w).mono ?_
      rintro e w1 ⟨rfl, rfl⟩
      go_wp2
      go_ret
      exact ⟨rfl, rfl⟩
theorem lex_step (x y : Nat → Nat) (k n : Nat) : lexC x y k (n + 1) = if Lib.compareInt (x k) (y k) = 0 then lexC x y (k + 1) n else Lib.compareInt (x k) (y k) := rfl
set_option maxRecDepth 100000 in
set_option maxHeartbeats 2000000 in
theorem compareL8 (b1 o1 b2 o2 : Nat) (x y : Nat → Nat) (w : World) (hx : ∀ j, j < 6 → w.cell? ⟨b1, o1 + j, none⟩ = some (.int .i8 (x (1 + j) : Int))) (hy : ∀ j, j < 6 → w.cell? ⟨b2, o2 + j, none⟩ = some (.int .i8 (y (1 + j) : Int))) :
    Calls Try.prog 104 #[.slice (some ⟨b1, o1, none⟩) 6 6, .slice (some ⟨b2, o2, none⟩) 6 6] w fun e w' => e = .returned (.int .i64 (lexC x y 1 6)) ∧ w = w' := by
  have HX := Lib.hid hx
  have HY := Lib.hid hy
  obtain ⟨R, hR⟩ : ∃ R, lexC x y 1 6 = R := ⟨_, rfl⟩
  have HR := Lib.hid hR
  rw [hR]
  clear hx hy hR
  go_enter Try.func104, Try.ntmps104
  go_wp2
  go_loop [11] (fun iv => ∃ k : Nat, k ≤ 6 ∧ iv = .int .i64 k ∧ Hid (lexC x y (1 + k) (6 - k) = R)) (fun iv => 6 - (RowKit.intOf iv).toNat)
  case atStart => exact ⟨0, Nat.zero_le _, rfl, HR.out⟩
  case round =>
    obtain ⟨k, hk, rfl, HV⟩ := hrel
    by_cases hlt : k < 6
    · have hj1 : (k : Int) < 6 := by omega
      have k1 := HX.out k hlt
      have k2 := HY.out k hlt
      have HV2 : Hid ((if Lib.compareInt (x (1 + k)) (y (1 + k)) = 0 then lexC x y (1 + k + 1) (6 - (k + 1)) else Lib.compareInt (x (1 + k)) (y (1 + k))) = R) := by
        have h9 := HV.out
        rw [show 6 - k = (6 - (k + 1)) + 1 by omega, lex_step] at h9
        exact h9
      have CC := Lib.hid (compare8 (x (1 + k)) (y (1 + k)) w)
      clear HV
      obtain ⟨c, hc⟩ : ∃ c, Lib.compareInt (x (1 + k)) (y (1 + k)) = c := ⟨_, rfl⟩
      rw [hc] at HV2 CC
      clear hc
      go_wp2_with fail
      refine CC.out.mono ?_
      rintro e w1 ⟨rfl, rfl⟩
      by_cases h0 : c = 0
      · subst h0
        have HV3 : Hid (lexC x y (1 + (k + 1)) (6 - (k + 1)) = R) := by have h9 := HV2.out; rw [if_pos rfl] at h9; rw [← Nat.add_assoc]; exact h9
        go_wp2
        go_round
        case rel => exact ⟨k + 1, by omega, by go_num, HV3⟩
        case measure => simp [RowKit.intOf]; omega
      · have g1 : (c == 0) = false := by simp [h0]
        have g2 : (c != 0) = true := by simp [h0]
        obtain rfl : c = R := by have h9 := HV2.out; rw [if_neg h0] at h9; exact h9
        go_wp2
        go_ret
        exact ⟨rfl, rfl⟩
    obtain rfl : k = 6 := by omega
    obtain rfl : 0 = R := HV.out
    go_wp2
    go_ret
    exact ⟨rfl, rfl⟩
set_option maxRecDepth 100000 in
set_option maxHeartbeats 2000000 in
theorem or2 (D : Nat) (c s : Int) (w : World) (h0 : w.cell? ⟨D, 0, none⟩ = some (.int .i64 c)) (h1 : w.cell? ⟨D, 1, none⟩ = some (.int .i64 s)) :
    Calls Try.prog 102 #[.slice (some ⟨D, 0, none⟩) 2 2] w fun e w' => e = .returned (.int .i64 (if c = 0 then s else c)) ∧ w = w' := by
  obtain ⟨R, hR⟩ : ∃ R, (if c = 0 then s else c) = R := ⟨_, rfl⟩
  have HR := Lib.hid hR
  rw [hR]
  clear hR
  go_enter Try.func102, Try.ntmps102
  go_wp2
  go_loop [8] (fun iv => ∃ k : Nat, k ≤ 2 ∧ iv = .int .i64 k ∧ Hid (0 < k → c = 0) ∧ Hid (1 < k → s = 0)) (fun iv => 2 - (RowKit.intOf iv).toNat)
  case atStart => exact ⟨0, by omega, rfl, (fun h => absurd h (by omega)), (fun h => absurd h (by omega))⟩
  case round =>
    obtain ⟨k, hk, rfl, HC, HSS⟩ := hrel
    have hk3 : k = 0 ∨ k = 1 ∨ k = 2 := by omega
    rcases hk3 with rfl | rfl | rfl
    · by_cases hc : c = 0
      · have g1 : (c == 0) = true := by simp [hc]
        have g2 : (c != 0) = false := by simp [hc]
        have H1 : Hid (0 < 1 → c = 0) := fun _ => hc
        clear hc
        go_wp2
        go_round
        case rel => exact ⟨1, by omega, rfl, H1, fun h => absurd h (by omega)⟩
        case measure => simp [RowKit.intOf]
      · have g1 : (c == 0) = false := by simp [hc]
        have g2 : (c != 0) = true := by simp [hc]
        obtain rfl : c = R := by have h9 := HR.out; rw [if_neg hc] at h9; exact h9
        go_wp2
        go_ret
        exact ⟨rfl, rfl⟩
    · have hc : c = 0 := HC.out (by omega)
      by_cases hs : s = 0
      · have g1 : (s == 0) = true := by simp [hs]
        have g2 : (s != 0) = false := by simp [hs]
        have H1 : Hid (1 < 2 → s = 0) := fun _ => hs
        have H0 : Hid (0 < 2 → c = 0) := fun _ => hc
        clear hc hs h0
        go_wp2
        go_round
        case rel => exact ⟨2, by omega, rfl, H0, H1⟩
        case measure => simp [RowKit.intOf]
      · have g1 : (s == 0) = false := by simp [hs]
        have g2 : (s != 0) = true := by simp [hs]
        obtain rfl : s = R := by have h9 := HR.out; rw [if_pos hc] at h9; exact h9
        clear hc h0
        go_wp2
        go_ret
        exact ⟨rfl, rfl⟩
    · have hc : c = 0 := HC.out (by omega)
      have hs : s = 0 := HSS.out (by omega)
      obtain rfl : 0 = R := by have h9 := HR.out; rw [if_pos hc, hs] at h9; exact h9
      clear hc hs h0 h1
      go_wp2
      go_ret
      exact ⟨rfl, rfl⟩
theorem at7 {w : World} {B : Nat} {x : Nat → Nat} (h : ∀ j v, (seatE x)[j]? = some v → w.cell? ⟨B, j, none⟩ = some v) : ∀ j, j < 6 → w.cell? ⟨B, 1 + j, none⟩ = some (.int .i8 (x (1 + j) : Int)) := fun j hj => by
  have : j = 0 ∨ j = 1 ∨ j = 2 ∨ j = 3 ∨ j = 4 ∨ j = 5 := by omega
  rcases this with rfl | rfl | rfl | rfl | rfl | rfl <;> exact h _ _ rfl
set_option maxRecDepth 100000 in
set_option maxHeartbeats 4000000 in
theorem compareSeatings_any (x y : Nat → Nat) (w : World) :
    Calls Try.prog 93 #[.agg (seatE x).toArray, .agg (seatE y).toArray] w fun e w' => e = .returned (.int .i64 (seatCf x y)) ∧ ∃ q os', w' = grow (w.drewN q) os' := by
  obtain ⟨W, hW⟩ : ∃ W, (w.alloc (.cells (seatE x).toArray 112)).alloc (.cells (seatE y).toArray 112) = W := ⟨_, rfl⟩
  have HA : Hid (BoxN W w.heap.size (seatE x)) := by
    rw [← hW]
    exact (BoxN.made (cs := (seatE x).toArray) (Below.refl _ _) rfl).below ((Below.refl _ _).alloc (Nat.le_refl _) _)
  have HB : Hid (BoxN W (w.heap.size + 1) (seatE y)) := by
    rw [← hW]
    exact BoxN.made (cs := (seatE y).toArray) (Below.refl _ _) (by simp)
  have HWG : Hid (∃ os, W = grow w os) := by rw [← hW]; exact ⟨_, by rw [alloc_eq_grow, alloc_eq_grow, grow_grow]⟩

  have HW := Lib.hid hW
  have HCF : Hid (seatCf x y = if Lib.compareInt (x 0 : Int) (y 0 : Int) = 0 then lexC x y 1 6 else Lib.compareInt (x 0 : Int) (y 0 : Int)) := rfl
  clear hW
  go_enter Try.func93, Try.ntmps93
  go_upto_region 1 with fail
  rw [HW.out]
  clear HW
  obtain ⟨Sc, HSd⟩ : ∃ Sc : World → Prop, Sc = fun w' => BoxN w' w.heap.size (seatE x) ∧ BoxN w' (w.heap.size + 1) (seatE y) := ⟨_, rfl⟩
  have KS : Hid (∀ wa wb, Sc wa → Below wa.heap.size wa wb → Sc wb) := by subst HSd; exact fun wa wb h b => ⟨h.1.below b, h.2.below b⟩
  have OS : Hid (∀ wa, Sc wa → BoxN wa w.heap.size (seatE x) ∧ BoxN wa (w.heap.size + 1) (seatE y)) := by subst HSd; exact fun wa h => h
  have KS0 : Hid (Sc W.drew) := by subst HSd; exact ⟨HA.out.below (Below.refl _ _).drew, HB.out.below (Below.refl _ _).drew⟩
  clear HSd HA HB
  refine wp_region_held_drew (S := Sc) (by kernel_rfl) ?_ (fun hHeld => ?_)
  · exact KS0.out
  clear KS0
  refine wpAnyH_take (i := 0) (v := ?_) rfl (by kernel_rfl) (by kernel_rfl) (by kernel_rfl) (fun _ _ _ h => h) (Or.inl ⟨by rfl, ?_⟩) (by assumption) ?_
  rotate_left
  · (intro wa hSw; obtain ⟨hA, hB⟩ := OS.out _ hSw; have c0 := hA.2 0 _ rfl; have d0 := hB.2 0 _ rfl; have zA := hA.1; have zB := hB.1; go_simp; try with_reducible rfl)
  simp only [Act.put, List.getElem_toArray, List.getElem_cons_zero, List.setIfInBounds_toArray, List.set_cons_zero, List.set_cons_succ]
  refine wpAnyH_take (i := 1) (v := ?_) rfl (by kernel_rfl) (by kernel_rfl) (by kernel_rfl) (fun _ _ _ h => h) (Or.inl ⟨by rfl, ?_⟩) (by assumption) ?_
  rotate_left
  · (intro wa hSw; obtain ⟨hA, hB⟩ := OS.out _ hSw; have c0 := hA.2 0 _ rfl; have d0 := hB.2 0 _ rfl; have zA := hA.1; have zB := hB.1; go_simp; try with_reducible rfl)
  simp only [Act.put, List.getElem_toArray, List.getElem_cons_zero, List.getElem_cons_succ, List.setIfInBounds_toArray, List.set_cons_zero, List.set_cons_succ]
  refine wpAnyH_take (i := 2) (v := ?_) rfl (by kernel_rfl) (by kernel_rfl) (by kernel_rfl) (fun _ _ _ h => h) (Or.inl ⟨by rfl, ?_⟩) (by assumption) ?_
  rotate_left
  · (intro wa hSw; obtain ⟨hA, hB⟩ := OS.out _ hSw; have c0 := hA.2 0 _ rfl; have d0 := hB.2 0 _ rfl; have zA := hA.1; have zB := hB.1; go_simp; try with_reducible rfl)
  simp only [Act.put, List.getElem_toArray, List.getElem_cons_zero, List.getElem_cons_succ, List.setIfInBounds_toArray, List.set_cons_zero, List.set_cons_succ]
  refine wpAnyH_take (i := 3) (v := ?_) rfl (by kernel_rfl) (by kernel_rfl) (by kernel_rfl) (fun _ _ _ h => h) (Or.inl ⟨by rfl, ?_⟩) (by assumption) ?_
  rotate_left
  · (intro wa hSw; obtain ⟨hA, hB⟩ := OS.out _ hSw; have c0 := hA.2 0 _ rfl; have d0 := hB.2 0 _ rfl; have zA := hA.1; have zB := hB.1; go_simp; try with_reducible rfl)
  simp only [Act.put, List.getElem_toArray, List.getElem_cons_zero, List.getElem_cons_succ, List.setIfInBounds_toArray, List.set_cons_zero, List.set_cons_succ]
  refine wpAnyH_take (i := 5) (v := ?_) rfl (by kernel_rfl) (by kernel_rfl) (by kernel_rfl) (fun _ _ _ h => h) (Or.inl ⟨by rfl, ?_⟩) (by assumption) ?_
  rotate_left
  · (intro wa hSw; obtain ⟨hA, hB⟩ := OS.out _ hSw; have c0 := hA.2 0 _ rfl; have d0 := hB.2 0 _ rfl; have zA := hA.1; have zB := hB.1; go_simp; try with_reducible rfl)
  simp only [Act.put, List.getElem_toArray, List.getElem_cons_zero, List.getElem_cons_succ, List.setIfInBounds_toArray, List.set_cons_zero, List.set_cons_succ]
  refine wpAnyH_take (i := 6) (v := ?_) rfl (by kernel_rfl) (by kernel_rfl) (by kernel_rfl) (fun _ _ _ h => h) (Or.inl ⟨by rfl, ?_⟩) (by assumption) ?_
  rotate_left
  · (intro wa hSw; obtain ⟨hA, hB⟩ := OS.out _ hSw; have c0 := hA.2 0 _ rfl; have d0 := hB.2 0 _ rfl; have zA := hA.1; have zB := hB.1; go_simp; try with_reducible rfl)
  simp only [Act.put, List.getElem_toArray, List.getElem_cons_zero, List.getElem_cons_succ, List.setIfInBounds_toArray, List.set_cons_zero, List.set_cons_succ]
  refine wpAnyH_take (i := 7) (v := ?_) rfl (by kernel_rfl) (by kernel_rfl) (by kernel_rfl) (fun _ _ _ h => h) (Or.inl ⟨by rfl, ?_⟩) (by assumption) ?_
  rotate_left
  · (intro wa hSw; obtain ⟨hA, hB⟩ := OS.out _ hSw; have c0 := hA.2 0 _ rfl; have d0 := hB.2 0 _ rfl; have zA := hA.1; have zB := hB.1; go_simp; try with_reducible rfl)
  simp only [Act.put, List.getElem_toArray, List.getElem_cons_zero, List.getElem_cons_succ, List.setIfInBounds_toArray, List.set_cons_zero, List.set_cons_succ]
  refine wpAnyH_take (i := 8) (v := ?_) rfl (by kernel_rfl) (by kernel_rfl) (by kernel_rfl) (fun _ _ _ h => h) (Or.inl ⟨by rfl, ?_⟩) (by assumption) ?_
  rotate_left
  · (intro wa hSw; obtain ⟨hA, hB⟩ := OS.out _ hSw; have c0 := hA.2 0 _ rfl; have d0 := hB.2 0 _ rfl; have zA := hA.1; have zB := hB.1; go_simp; try with_reducible rfl)
  simp only [Act.put, List.getElem_toArray, List.getElem_cons_zero, List.getElem_cons_succ, List.setIfInBounds_toArray, List.set_cons_zero, List.set_cons_succ]
  refine wpAnyH_ready (rs := [4]) (by kernel_rfl) (by simp) ?_
  refine AllReadyH.cons (o := _) rfl (fun K hK => ?_) AllReadyH.nil
  go_simp
  refine (compare8 (x 0) (y 0) _).mono ?_
  rintro e w1 ⟨rfl, rfl⟩
  (try go_wp2_with fail)
  refine hK.out _ _ hHeld (fun hHeld1 => ?_)
  clear hK K hHeld1
  refine wpAnyH_ready (rs := [9]) (by kernel_rfl) (by simp) ?_
  refine AllReadyH.cons (o := _) rfl (fun K hK => ?_) AllReadyH.nil
  go_simp
  obtain ⟨hA, hB⟩ := OS.out _ hHeld
  refine (compareL8 w.heap.size 1 (w.heap.size + 1) 1 x y _ (fun j hj => at7 hA.2 j hj) (fun j hj => at7 hB.2 j hj)).mono ?_
  rintro e w1 ⟨rfl, rfl⟩
  clear hA hB
  (try go_wp2_with fail)
  refine hK.out _ _ hHeld (fun hHeld1 => ?_)
  clear hK K hHeld1
  refine wpAnyH_ready (rs := [10]) (by kernel_rfl) (by simp) ?_
  refine AllReadyH.cons (o := _) rfl (fun K hK => ?_) AllReadyH.nil
  go_simp
  refine hK.out _ _ ?_ (fun hHeld1 => ?_)
  · exact KS.out _ _ hHeld ((Below.refl _ _).alloc (Nat.le_refl _) _)
  clear hK K
  refine wpAnyH_ready (rs := [11]) (by kernel_rfl) (by simp) ?_
  refine AllReadyH.cons (o := _) rfl (fun K hK => ?_) AllReadyH.nil
  go_simp
  have hbx := (BoxN.made (u := W) (cs := #[.int .i64 (Lib.compareInt (x 0 : Int) (y 0 : Int)), .int .i64 (lexC x y 1 6)]) (t := 3) (Below.refl _ _) rfl).below (Below.refl _ _).drew
  have CO := or2 W.heap.size _ _ _ (hbx.2 0 _ rfl) (hbx.2 1 _ rfl)
  rw [← HCF.out] at CO
  clear hbx
  refine CO.mono ?_
  rintro e w1 ⟨rfl, rfl⟩
  clear CO
  (try go_wp2_with fail)
  refine hK.out _ _ hHeld1 (fun hHeld2 => ?_)
  clear hK K hHeld2
  refine wpAnyH_ready (rs := [12]) (by kernel_rfl) (by simp) ?_
  refine AllReadyH.cons (o := _) rfl (fun K hK => ?_) AllReadyH.nil
  go_simp
  refine hK.out _ _ hHeld1 (fun hHeld2 => ?_)
  clear hK K hHeld2
  refine wpAnyH_done (by kernel_rfl) ?_ _
  clear hHeld1 hHeld KS OS
  obtain ⟨os, hos⟩ := HWG.out
  have HF : Hid (∀ o, (W.alloc o).drew = grow (w.drewN 1) (os ++ #[o])) := fun o => by rw [hos, alloc_eq_grow, grow_grow]; rfl
  clear hos
  go_wp2
  go_ret
  exact ⟨rfl, 1, _, HF.out _⟩
end Go.Proofs.Ytmhkkdnopcdibaa
set_option linter.unusedVariables false
namespace Go.Proofs.Ytmhkkdnopcdibaa
open Go.RowKit

section
variable {α : Type}
def succs (fits : α → Bool) (upd : α → α) : List α → List (List α)
  | [] => []
  | x :: l => (if fits x = true then [upd x :: l] else []) ++ (succs fits upd l).map (x :: ·)
theorem succs_cons (fits : α → Bool) (upd : α → α) (x : α) (l : List α) : succs fits upd (x :: l) = (if fits x = true then [upd x :: l] else []) ++ (succs fits upd l).map (x :: ·) := rfl
theorem succs_perm (fits : α → Bool) (upd : α → α) {l l' : List α} (hp : l.Perm l') : ∀ (h : List α → Nat), (∀ a b, a.Perm b → h a = h b) → ((succs fits upd l).map h).sum = ((succs fits upd l').map h).sum := by
  induction hp with
  | nil => intro h _; rfl
  | cons x hl ih =>
    rename_i l1 l2
    intro h hh
    unfold succs
    simp only [List.map_append, List.sum_append, List.map_map]
    have e1 : (((if fits x = true then [upd x :: l1] else []) : List (List α)).map h).sum = (((if fits x = true then [upd x :: l2] else []) : List (List α)).map h).sum := by
      split
      · simp only [List.map_cons, List.map_nil, List.sum_cons, List.sum_nil]
        rw [hh _ _ (hl.cons (upd x))]
      · rfl
    rw [e1, ih (h ∘ (x :: ·)) fun a b hab => hh _ _ (hab.cons x)]
  | swap x y l =>
    intro h hh
    have e0 : ((succs fits upd l).map (h ∘ (fun z => y :: x :: z))).sum = ((succs fits upd l).map (h ∘ (fun z => x :: y :: z))).sum := by
      congr 1
      exact List.map_congr_left fun z _ => hh _ _ (List.Perm.swap x y z)
    have e1 : h (upd y :: x :: l) = h (x :: upd y :: l) := hh _ _ (List.Perm.swap x (upd y) l)
    have e2 : h (y :: upd x :: l) = h (upd x :: y :: l) := hh _ _ (List.Perm.swap (upd x) y l)
    have k1 : ((succs fits upd (y :: x :: l)).map h).sum = (if fits y = true then h (upd y :: x :: l) else 0) + ((if fits x = true then h (y :: upd x :: l) else 0) + ((succs fits upd l).map (h ∘ (fun z => y :: x :: z))).sum) := by
      rw [succs_cons, succs_cons]
      simp only [List.map_append, List.sum_append, List.map_map]
      congr 1
      · split <;> simp
      · congr 1
        split <;> simp
    have k2 : ((succs fits upd (x :: y :: l)).map h).sum = (if fits x = true then h (upd x :: y :: l) else 0) + ((if fits y = true then h (x :: upd y :: l) else 0) + ((succs fits upd l).map (h ∘ (fun z => x :: y :: z))).sum) := by
      rw [succs_cons, succs_cons]
      simp only [List.map_append, List.sum_append, List.map_map]
      congr 1
      · split <;> simp
      · congr 1
        split <;> simp
    rw [k1, k2, e0, e1, e2]
    omega
  | trans _ _ ih1 ih2 => intro h hh; rw [ih1 h hh, ih2 h hh]
theorem succs_sum (fits : α → Bool) (upd : α → α) (dflt : α) : ∀ (l : List α) (h : List α → Nat), ((succs fits upd l).map h).sum = sumNN (fun g => if fits (l.getD g dflt) = true then h (l.set g (upd (l.getD g dflt))) else 0) l.length
  | [], h => rfl
  | x :: l, h => by
    have key : ∀ (f : Nat → Nat) (n : Nat), sumNN f (n + 1) = f 0 + sumNN (fun g => f (g + 1)) n := by
      intro f n
      induction n with
      | zero => show 0 + f 0 = f 0 + 0; omega
      | succ n ih =>
        show sumNN f (n + 1) + f (n + 1) = f 0 + (sumNN (fun g => f (g + 1)) n + f (n + 1))
        rw [ih]; omega
    rw [List.length_cons, key]
    unfold succs
    simp only [List.map_append, List.sum_append, List.map_map]
    rw [succs_sum fits upd dflt l (h ∘ (x :: ·))]
    congr 1
    show _ = (if fits x = true then h (upd x :: l) else 0)
    split <;> simp
end
def chk (S : Nat → Nat) (g : Nat) : List Nat := (List.range 7).map fun k => S (g * 7 + k)
def chunks (S : Nat → Nat) (G : Nat) : List (List Nat) := (List.range G).map (chk S)
theorem chk_at (S : Nat → Nat) (g k : Nat) (hk : k < 7) : (chk S g).getD k 0 = S (g * 7 + k) := by
  unfold chk
  rw [List.getD_eq_getElem?_getD, List.getElem?_map, List.getElem?_range hk]
  rfl
def fitC (d : DrwD) (i : Nat) (x : List Nat) : Bool := decide (x.getD 0 0 = 0) && decide ((x.getD (1 + d.cl i) 0 : Int) < d.most)
def updC (c : Nat) (x : List Nat) : List Nat := (List.range 7).map fun k => if k = 1 + c then x.getD k 0 + 1 else if k = 0 then x.getD 0 0 + 1 else x.getD k 0
def forC (c : Nat) (ep ec : Bool) (x : List Nat) : List Nat := (List.range 7).map fun k => if ep = true ∧ k = 0 then 0 else if ec = true ∧ k = 1 + c then 0 else x.getD k 0
def zL (d : DrwD) : Nat → List (List Nat) → Nat → Nat
  | 0, _, i => if i = d.N then 1 else 0
  | f + 1, l, i => if i = d.N then 1 else ((succs (fitC d i) (updC (d.cl i)) l).map fun l' => zL d f (l'.map (forC (d.cl i) (epB d i) (ecB d i))) (i + 1)).sum
theorem zL_perm (d : DrwD) : ∀ (f : Nat) (l l' : List (List Nat)) (i : Nat), l.Perm l' → zL d f l i = zL d f l' i
  | 0, _, _, _, _ => rfl
  | f + 1, l, l', i, hp => by
    unfold zL
    by_cases h : i = d.N
    · rw [if_pos h, if_pos h]
    · rw [if_neg h, if_neg h]
      exact succs_perm _ _ hp _ fun a b hab => zL_perm d f _ _ _ (hab.map _)
theorem fit_chk {d : DrwD} {S : Nat → Nat} {i g : Nat} (hc : d.cl i < 6) : fitC d i (chk S g) = fitS d S i g := by
  unfold fitC fitS
  rw [chk_at S g 0 (by omega), chk_at S g (1 + d.cl i) (by omega), Nat.add_zero, ← Nat.add_assoc]
theorem next_chk {d : DrwD} {S : Nat → Nat} {i g k : Nat} (hc : d.cl i < 6) : forC (d.cl i) (epB d i) (ecB d i) (if g = k then updC (d.cl i) (chk S k) else chk S k) = chk (nxtSe d S i g) k := by
  unfold forC
  show _ = (List.range 7).map fun j => nxtSe d S i g (k * 7 + j)
  refine List.map_congr_left fun j hj => ?_
  have hj7 : j < 7 := List.mem_range.1 hj
  have e : (if g = k then updC (d.cl i) (chk S k) else chk S k).getD j 0 = moreS (d.cl i) g S (k * 7 + j) := by
    by_cases hgk : g = k
    · rw [if_pos hgk]
      subst hgk
      unfold updC moreS
      rw [List.getD_eq_getElem?_getD, List.getElem?_map, List.getElem?_range hj7]
      show (if j = 1 + d.cl i then (chk S g).getD j 0 + 1 else if j = 0 then (chk S g).getD 0 0 + 1 else (chk S g).getD j 0) = _
      rw [chk_at S g j hj7, chk_at S g 0 (by omega)]
      by_cases h1 : j = 1 + d.cl i
      · rw [if_pos h1, if_pos (show g * 7 + j = g * 7 + 1 + d.cl i by omega)]
      · rw [if_neg h1, if_neg (show ¬ g * 7 + j = g * 7 + 1 + d.cl i by omega)]
        by_cases h2 : j = 0
        · rw [if_pos h2, if_pos (show g * 7 + j = g * 7 by omega), h2]
        · rw [if_neg h2, if_neg (show ¬ g * 7 + j = g * 7 by omega)]
    · rw [if_neg hgk, chk_at S k j hj7]
      unfold moreS
      rw [if_neg (by omega), if_neg (by omega)]
  rw [e]
  unfold nxtSe aftS forgS
  by_cases h1 : epB d i = true ∧ j = 0
  · have q : epB d i = true ∧ (k * 7 + j) % 7 = 0 := ⟨h1.1, by omega⟩
    rw [if_pos h1, if_pos q]
  · have q : ¬ (epB d i = true ∧ (k * 7 + j) % 7 = 0) := fun h9 => h1 ⟨h9.1, by omega⟩
    rw [if_neg h1, if_neg q]
    by_cases h2 : ecB d i = true ∧ j = 1 + d.cl i
    · have r : ecB d i = true ∧ (k * 7 + j) % 7 = 1 + d.cl i := ⟨h2.1, by omega⟩
      rw [if_pos h2, if_pos r]
    · have r : ¬ (ecB d i = true ∧ (k * 7 + j) % 7 = 1 + d.cl i) := fun h9 => h2 ⟨h9.1, by omega⟩
      rw [if_neg h2, if_neg r]
theorem chunks_at (S : Nat → Nat) (G g : Nat) (hg : g < G) : (chunks S G)[g]? = some (chk S g) := by
  unfold chunks
  rw [List.getElem?_map, List.getElem?_range hg]
  rfl
theorem next_chunks {d : DrwD} {S : Nat → Nat} {i g : Nat} (hc : d.cl i < 6) (hg : g < d.G) : ((chunks S d.G).set g (updC (d.cl i) (chk S g))).map (forC (d.cl i) (epB d i) (ecB d i)) = chunks (nxtSe d S i g) d.G := by
  apply List.ext_getElem?
  intro k
  have hl : (chunks S d.G).length = d.G := by unfold chunks; simp
  by_cases hk : k < d.G
  · rw [List.getElem?_map, chunks_at _ _ _ hk, ← next_chk (S := S) (g := g) (k := k) hc]
    by_cases e : g = k
    · subst e
      rw [List.getElem?_set_self (by rw [hl]; exact hg), if_pos rfl]
      rfl
    · rw [List.getElem?_set_ne e, chunks_at _ _ _ hk, if_neg e]
      rfl
  · rw [List.getElem?_eq_none (by simp [hl]; omega), List.getElem?_eq_none (by unfold chunks; simp; omega)]
theorem zF_chunks {d : DrwD} (hc : ∀ i, i < d.N → d.cl i < 6) : ∀ (f : Nat) (S : Nat → Nat) (i : Nat), i + f = d.N → zF d f S i = zL d f (chunks S d.G) i
  | 0, S, i, _ => rfl
  | f + 1, S, i, hi => by
    unfold zF zL
    rw [if_neg (by omega), if_neg (by omega), succs_sum _ _ []]
    have hl : (chunks S d.G).length = d.G := by unfold chunks; simp
    rw [hl]
    refine sumNN_congr _ fun g hg => ?_
    have hci := hc i (by omega)
    have e : (chunks S d.G).getD g [] = chk S g := by rw [List.getD_eq_getElem?_getD, chunks_at _ _ _ hg]; rfl
    rw [e, fit_chk hci]
    by_cases hf : fitS d S i g = true
    · rw [if_pos hf, if_pos hf, zF_chunks hc f _ (i + 1) (by omega), ← next_chunks hci hg]
    · rw [if_neg hf, if_neg hf]
theorem zF_perm {d : DrwD} (hc : ∀ i, i < d.N → d.cl i < 6) {f i : Nat} {S S' : Nat → Nat} (hi : i + f = d.N) (hp : (chunks S d.G).Perm (chunks S' d.G)) : zF d f S i = zF d f S' i := by
  rw [zF_chunks hc f S i hi, zF_chunks hc f S' i hi]
  exact zL_perm d f _ _ i hp
theorem chunks_congr {S S' : Nat → Nat} {G : Nat} (hG : G ≤ 4) (h : ∀ j, j < 28 → S j = S' j) : chunks S G = chunks S' G := by
  unfold chunks
  refine List.map_congr_left fun g hg => ?_
  have hg4 : g < G := List.mem_range.1 hg
  unfold chk
  refine List.map_congr_left fun k hk => ?_
  have hk7 : k < 7 := List.mem_range.1 hk
  exact h _ (by omega)
end Go.Proofs.Ytmhkkdnopcdibaa
set_option linter.unusedVariables false
namespace Go.Proofs.Ytmhkkdnopcdibaa
open Go.RowKit Go.Sort Go.Shelf

theorem seat_len (n : Nat) (W : World) (h : n ≤ 12) : Calls Try.prog 101 #[.int .u64 n] W fun e w' => (∃ l : Int, e = .returned (.int .i64 l)) ∧ w' = W :=
  (Any.bits_Len Try.lenL n W (by omega) (by omega)).mono fun _ _ ⟨he, hw⟩ => ⟨⟨_, he⟩, hw⟩
def seatD (S : Nat → Nat) (G : Nat) : Array (Nat → Nat) := (Array.range G).map fun g => fun k => S (g * 7 + k)
theorem seatD_size (S : Nat → Nat) (G : Nat) : (seatD S G).size = G := by simp [seatD]
theorem seatE_at (x : Nat → Nat) (k : Nat) (hk : k < 7) : (seatE x)[k]! = .int .i8 (x k : Int) := by
  have : k = 0 ∨ k = 1 ∨ k = 2 ∨ k = 3 ∨ k = 4 ∨ k = 5 ∨ k = 6 := by omega
  rcases this with rfl | rfl | rfl | rfl | rfl | rfl | rfl <;> rfl
theorem seatD_at (S : Nat → Nat) (G g : Nat) (hg : g < G) : (seatD S G)[g]! = fun k => S (g * 7 + k) := by
  rw [getElem!_pos (seatD S G) g (by rw [seatD_size]; exact hg)]
  simp [seatD]
theorem flat_at (d : Array (Nat → Nat)) (t : Nat) (ht : t < d.size * 7) : (flatK seatE 7 d)[t]! = .int .i8 (d[t / 7]! (t % 7) : Int) := by
  rw [get_flatK seatE 7 d t ht, seatE_at _ _ (Nat.mod_lt _ (by omega))]
def srtS (S : Nat → Nat) (d : Array (Nat → Nat)) : Nat → Nat := fun j => if j < d.size * 7 then d[j / 7]! (j % 7) else S j
theorem perm_chunks {S : Nat → Nat} {G : Nat} {d : Array (Nat → Nat)} (hp : PermIn 0 G (seatD S G) d) : (chunks (srtS S d) G).Perm (chunks S G) := by
  have hs : d.size = G := by rw [hp.1, seatD_size]
  have h3 := hp.2.2
  have e1 : d.extract 0 G = d := by
    have h := @Array.extract_size _ d
    rw [hs] at h
    exact h
  have e2 : (seatD S G).extract 0 G = seatD S G := by
    have h := @Array.extract_size _ (seatD S G)
    rw [seatD_size] at h
    exact h
  rw [e1, e2] at h3
  have h4 := h3.map fun x : Nat → Nat => (List.range 7).map x
  have k1 : d.toList.map (fun x : Nat → Nat => (List.range 7).map x) = chunks (srtS S d) G := by
    apply List.ext_getElem?
    intro g
    by_cases hg : g < G
    · rw [chunks_at _ _ _ hg, List.getElem?_map, List.getElem?_eq_getElem (by simpa [hs] using hg)]
      unfold chk
      rw [Option.map_some]
      congr 1
      refine List.map_congr_left fun k hk => ?_
      have hk7 : k < 7 := List.mem_range.1 hk
      unfold srtS
      rw [if_pos (by rw [hs]; omega), show (g * 7 + k) / 7 = g by omega, show (g * 7 + k) % 7 = k by omega, getElem!_pos d g (by omega)]
      rw [Array.getElem_toList]
    · rw [List.getElem?_eq_none (by simp [hs]; omega), List.getElem?_eq_none (by unfold chunks; simp; omega)]
  have k2 : (seatD S G).toList.map (fun x : Nat → Nat => (List.range 7).map x) = chunks S G := by
    apply List.ext_getElem?
    intro g
    by_cases hg : g < G
    · rw [chunks_at _ _ _ hg, List.getElem?_map, List.getElem?_eq_getElem (by simp [seatD_size]; exact hg), Option.map_some, Array.getElem_toList]
      have h9 := seatD_at S G g hg
      rw [getElem!_pos (seatD S G) g (by rw [seatD_size]; exact hg)] at h9
      rw [h9]
      rfl
    · rw [List.getElem?_eq_none (by simp [seatD_size]; omega), List.getElem?_eq_none (by unfold chunks; simp; omega)]
  rw [← k1, ← k2]
  exact h4
theorem srt_whole {w : World} {B : Nat} {cs : Array Value} {S : Nat → Nat} {d : Array (Nat → Nat)} (hS : SeatA cs S) (hW : Whole w B cs 114) (hd : d.size ≤ 4) (n : Nat) (os : Array Obj) :
    ∃ cs', SeatA cs' (srtS S d) ∧ Whole (sortWorldK seatE 7 w B 0 n d os) B cs' 114 ∧ w.grownBy (sortWorldK seatE 7 w B 0 n d os) (some B) := by
  refine ⟨putCells id 0 (flatK seatE 7 d) cs, ⟨by simp [putCells, hS.1], fun j hj => ?_⟩, ?_, ?_⟩
  · have hj2 := hS.2 j hj
    have hsz : j < cs.size := by rw [hS.1]; exact hj
    rw [Array.getElem?_eq_getElem hsz] at hj2
    have hcj := Option.some.inj hj2
    unfold putCells
    rw [Array.getElem?_mapIdx, Array.getElem?_eq_getElem hsz, Option.map_some, hcj, size_flatK]
    unfold srtS
    by_cases h1 : j < d.size * 7
    · rw [if_pos ⟨Nat.zero_le _, by omega⟩, if_pos h1, Nat.sub_zero]
      show some ((flatK seatE 7 d)[j]!) = _
      rw [flat_at d j h1]
    · rw [if_neg (fun h9 => h1 (by omega)), if_neg h1]
  · have hg : B < w.heap.size := hW.lt
    show (grow (putRow id (Sort.ahead w n) B 0 (flatK seatE 7 d)) os).heap[B]? = _
    rw [heap_grow_old _ _ (by simpa using hg)]
    have hb : w.heap[B]? = some (.cells cs 114 (0, 0)) := hW
    simp [putRow, mapBlock, Sort.ahead, Array.getElem?_modify, hb, onCells]
  · refine ⟨rfl, rfl, rfl, by simp [sortWorldK, putRowK, grow, putRow, mapBlock, Sort.ahead], fun k hk hne => ?_⟩
    show (grow (putRow id (Sort.ahead w n) B 0 (flatK seatE 7 d)) os).heap[k]? = _
    rw [heap_grow_old _ _ (by simpa using hk)]
    have hBk : B ≠ k := fun e => hne (by rw [e])
    simp [putRow, mapBlock, Sort.ahead, Array.getElem?_modify, hBk]
theorem srt_small {S : Nat → Nat} {G : Nat} {d : Array (Nat → Nat)} (hp : PermIn 0 G (seatD S G) d) {n : Nat} (h : ∀ j, S j ≤ n) : ∀ j, srtS S d j ≤ n := fun j => by
  have hs : d.size = G := by rw [hp.1, seatD_size]
  have h3 := hp.2.2
  have e1 : d.extract 0 G = d := by
    have h := @Array.extract_size _ d
    rw [hs] at h
    exact h
  have e2 : (seatD S G).extract 0 G = seatD S G := by
    have h := @Array.extract_size _ (seatD S G)
    rw [seatD_size] at h
    exact h
  rw [e1, e2] at h3
  unfold srtS
  by_cases hj : j < d.size * 7
  · rw [if_pos hj]
    have hg : j / 7 < d.size := by omega
    have hm : d[j / 7]! ∈ (seatD S G).toList := by
      refine h3.subset ?_
      rw [getElem!_pos d (j / 7) hg]
      exact List.mem_of_getElem (Array.getElem_toList hg)
    obtain ⟨k, hk, e⟩ := List.getElem_of_mem hm
    have hk2 : k < G := by simpa [seatD_size] using hk
    have h9 := seatD_at S G k hk2
    rw [getElem!_pos (seatD S G) k (by rw [seatD_size]; exact hk2)] at h9
    rw [Array.getElem_toList, h9] at e
    rw [← e]
    exact h _
  · rw [if_neg hj]
    exact h j
def SrtM (w : World) (B : Nat) (S : Nat → Nat) (G : Nat) (w' : World) : Prop :=
  ∃ (cs' : Array Value) (S' : Nat → Nat), SeatA cs' S' ∧ (chunks S' G).Perm (chunks S G) ∧ (∀ n : Nat, (∀ j, S j ≤ n) → ∀ j, S' j ≤ n) ∧ Whole w' B cs' 114 ∧ w.grownBy w' (some B)
theorem sortSeats (B G : Nat) (cs : Array Value) (S : Nat → Nat) (w : World) (hS : SeatA cs S) (hW : Whole w B cs 114) (hG : G ≤ 4) :
    Calls Try.prog 92 #[.slice (some ⟨B, 0, none⟩) G 4, .func (.func 93) #[] #[]] w fun e w' => e = .returned (.tuple #[]) ∧ SrtM w B S G w' := by
  have eg : ∀ args w, (callFunc 93 args).run Try.prog w = .ok (.enter 93 args) w := enters_of Try.func93 (by kernel_rfl) rfl
  have hcmp : CmpLays Try.prog 93 #[] seatE 7 seatCf B 0 (seatD S G).size w := fun q os dk hdk x y => compareSeatings_any x y _
  have hH : HoldsK seatE 7 w B 0 (seatD S G) := by
    intro j hj
    have hj2 : j < G * 7 := by rw [size_flatK, seatD_size] at hj; exact hj
    rw [Nat.zero_add, flat_at _ j (by rw [seatD_size]; exact hj2), seatD_at S G (j / 7) (by omega)]
    refine ⟨?_, hW.free j⟩
    rw [hW.cell (hS.2 j (by omega))]
    simp only [id]
    rw [show j / 7 * 7 + j % 7 = j by omega]
  have h := AnyQ.slices_SortFunc_small_sorted Try.sortKL 7 Try.isAgg112 Try.sizeOf112 seatE (fun _ => rfl) (fun x v hv => by simp [seatE] at hv; rcases hv with rfl | rfl | rfl | rfl | rfl | rfl | rfl <;> rfl) seatCf 93 #[] seatSwo B 0 4 (seatD S G) w eg hcmp hH hW.lt (by rw [seatD_size]; omega) seat_len
  change Calls Try.prog 92 _ _ _ at h
  rw [seatD_size] at h
  refine h.mono ?_
  rintro e w' ⟨he, d', n, os, hp, _, rfl⟩
  have hs : d'.size = G := by rw [hp.1, seatD_size]
  obtain ⟨cs', h1, h2, h3⟩ := srt_whole hS hW (d := d') (by omega) n os
  refine ⟨he, cs', _, h1, perm_chunks hp, fun m hm => srt_small hp hm, h2, h3⟩
end Go.Proofs.Ytmhkkdnopcdibaa
