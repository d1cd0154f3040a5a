/-
  Packed: GamesImpl, OrdersImpl, Decisive.
-/
import Derived.Test.YteciobkjfmddcaaGreatDoorQ2
import Derived.Test.YteciobkjfmddcaaGreatDoorQ4
import Derived.Test.YteciobkjfmddcaaGreatDoorQ8
set_option linter.unusedVariables false
namespace Go.Proofs.YteciobkjfmddcaaGreatDoor
open Go.RowKit

theorem SeenN.below {K : Nat} {w w' : World} {B : Nat} {S : Nat → Bool} (h : SeenN K w B S) (hb : Below w.heap.size w w') : SeenN K w' B S :=
  ⟨Nat.lt_of_lt_of_le h.1 hb.size, fun j hj => ⟨(hb.cell (p := ⟨B, j, none⟩) h.1).trans (h.2 j hj).1, (hb.frozen (p := ⟨B, j, none⟩) h.1).trans (h.2 j hj).2⟩⟩
def pairG (g : Nat → GameD) (i : Nat) : Int := (g i).home * 8 + (g i).away
theorem pair_first {n : Int} {m k : Nat} {g : Nat → GameD} (hk : k < m) (hall : ∀ i, i < k → gameP n (g i)) (hg : gameP n (g k)) :
    firstI (atG g (g k).home (g k).away) m 0 = (k : Int) ↔ ¬ hasP (pairG g) (pairG g k) k := by
  rw [firstI_eq m 0 k]
  obtain ⟨⟨_, hn⟩, ⟨q1, q2⟩, ⟨q3, q4⟩, _⟩ := hg
  constructor
  · rintro ⟨_, _, h⟩ ⟨i, hi, e⟩
    obtain ⟨_, ⟨r1, r2⟩, ⟨r3, r4⟩, _⟩ := hall i hi
    have h2 := h i (Nat.zero_le _) hi
    unfold pairG at e
    have e1 : (g i).home = (g k).home := by omega
    have e2 : (g i).away = (g k).away := by omega
    unfold atG at h2
    rw [e1, e2] at h2
    simp at h2
  · intro h
    refine ⟨⟨Nat.zero_le _, by omega⟩, by simp [atG], fun i _ hi => ?_⟩
    cases hq : atG g (g k).home (g k).away i with
    | false => rfl
    | true =>
      unfold atG at hq
      simp only [Bool.and_eq_true, beq_iff_eq] at hq
      exact absurd ⟨i, hi, by unfold pairG; rw [hq.1, hq.2]⟩ h

set_option maxHeartbeats 1000000 in
theorem seasonOk_impl (n : Int) (v : Value) (m : Nat) (g : Nat → GameD) (R : Bool) (w : World) (hR : R = true ↔ seasonP n m g) (hv : GameRow w v m g) :
    Calls Tryz.prog 37 #[.int .i64 n, v] w fun e w' => e = .returned (.bool R) ∧ Below w.heap.size w w' := by
  obtain ⟨aa, cap, rfl, hn, hc⟩ := hv.form
  have HV := Lib.hid hc
  have HR := Lib.hid hR
  clear hc hv hR
  by_cases h60 : 60 < m
  · have g0 : decide (60 < (m : Int)) = true := decide_eq_true (by omega)
    have g0' : decide (60 < m) = true := decide_eq_true h60
    have hf : R = false := by
      cases R with
      | false => rfl
      | true => have := (HR.out.1 rfl).1; omega
    subst hf
    clear HR
    go_enter Tryz.func37, Tryz.ntmps37
    go_wp2
    go_ret
    exact ⟨rfl, Below.refl _ _⟩
  have g0 : decide (60 < (m : Int)) = false := decide_eq_false (by omega)
  have g0' : decide (60 < m) = false := decide_eq_false h60
  have HNO : Hid (∀ k, k < m → ¬ (gameP n (g k) ∧ firstI (atG g (g k).home (g k).away) m 0 = (k : Int)) → R = false) := fun k hk h => by
    cases R with
    | false => rfl
    | true => exact absurd ((HR.out.1 rfl).2 k hk) h
  have HYES : Hid ((∀ i, i < m → gameP n (g i) ∧ firstI (atG g (g i).home (g i).away) m 0 = (i : Int)) → R = true) := fun h => HR.out.2 ⟨by omega, h⟩
  clear HR
  have s1 := SeenN.made 64 w (Array.replicate 64 (.bool false)) 102 (fun j hj => by simp [hj])
  have es : Array.replicate 64 (Value.bool false) = #[.bool false, .bool false, .bool false, .bool false, .bool false, .bool false, .bool false, .bool false, .bool false, .bool false, .bool false, .bool false, .bool false, .bool false, .bool false, .bool false, .bool false, .bool false, .bool false, .bool false, .bool false, .bool false, .bool false, .bool false, .bool false, .bool false, .bool false, .bool false, .bool false, .bool false, .bool false, .bool false, .bool false, .bool false, .bool false, .bool false, .bool false, .bool false, .bool false, .bool false, .bool false, .bool false, .bool false, .bool false, .bool false, .bool false, .bool false, .bool false, .bool false, .bool false, .bool false, .bool false, .bool false, .bool false, .bool false, .bool false, .bool false, .bool false, .bool false, .bool false, .bool false, .bool false, .bool false, .bool false] := by rfl
  rw [es] at s1
  clear es
  go_enter Tryz.func37, Tryz.ntmps37
  go_wp2
  go_loopw [13] (fun i wr => ∃ (k : Nat) (M : Nat → Bool), k ≤ m ∧ i = .int .i64 k ∧ Hid (∀ i, i < k → gameP n (g i) ∧ firstI (atG g (g i).home (g i).away) m 0 = (i : Int)) ∧ Hid (SeenN 64 wr w.heap.size M) ∧ Hid (∀ j : Nat, j < 64 → (M j = true ↔ hasP (pairG g) j k)) ∧ Below w.heap.size w wr) (fun i _ => m - (RowKit.intOf i).toNat)
  case atStart => exact ⟨0, _, Nat.zero_le _, rfl, fun i hi => absurd hi (by omega), s1, fun j _ => ⟨fun h => absurd h (by simp), fun ⟨i, hi, _⟩ => absurd hi (by omega)⟩, (Below.refl _ _).alloc (Nat.le_refl _) _⟩
  case round =>
    clear s1
    obtain ⟨k, M, hk, rfl, hok, hS, hSk, hb⟩ := hrel
    by_cases hlt : k < m
    · obtain ⟨b, off, rfl, hcap, hc⟩ := HV.out (by omega)
      have hq := (hc k hlt).belowB hb (hc k hlt).1
      have HS : Hid ((gameP n (g k) ∧ firstI (atG g (g k).home (g k).away) m 0 = (k : Int)) → ∀ i, i < k + 1 → gameP n (g i) ∧ firstI (atG g (g i).home (g i).away) m 0 = (i : Int)) := fun h i hi => by
        by_cases hik : i = k
        · subst hik; exact h
        · exact hok.out i (by omega)
      have HN := Lib.hid (HNO.out k hlt)
      have HP : Hid (gameP n (g k) → (firstI (atG g (g k).home (g k).away) m 0 = (k : Int) ↔ ¬ hasP (pairG g) (pairG g k) k)) := fun h => pair_first hlt (fun i hi => (hok.out i hi).1) h
      have HE : Hid (∀ t : Nat, pairG g k = t → ∀ j : Nat, j < 64 → ((M j || decide (j = t)) = true ↔ hasP (pairG g) j (k + 1))) := fun t ht j hj => by
        simp only [Bool.or_eq_true, decide_eq_true_eq]
        constructor
        · rintro (h | rfl)
          · obtain ⟨i, hi, hij⟩ := (hSk.out j hj).1 h
            exact ⟨i, by omega, hij⟩
          · exact ⟨k, by omega, ht⟩
        · rintro ⟨i, hi, hij⟩
          by_cases hik : i = k
          · subst hik; right; omega
          · exact .inl ((hSk.out j hj).2 ⟨i, by omega, hij⟩)
      have HSm : Hid (∀ t : Nat, t < 64 → pairG g k = t → (M t = true ↔ hasP (pairG g) (pairG g k) k)) := fun t h6 ht => by rw [ht]; exact hSk.out t h6
      have HPK : Hid (pairG g k = (g k).home * 8 + (g k).away) := rfl
      generalize hasP (pairG g) (pairG g k) k = hp at *
      generalize pairG g k = pk at *
      generalize firstI (atG g (g k).home (g k).away) m 0 = fi at *
      generalize g k = x at *
      obtain ⟨x0, x1, x2, x3, x4⟩ := x
      obtain ⟨c0, c1, c2, c3, c4⟩ := game_cells hq
      simp only at c0 c1 c2 c3 c4 HPK
      have hsz := hb.size
      clear hc HV hq hok HNO HYES hSk
      obtain ⟨r, hr⟩ := bool_ex (gameP n ⟨x0, x1, x2, x3, x4⟩)
      have C := Lib.hid (fun w1 => gameOk_impl n x0 x1 x2 x3 x4 r w1 hr)
      have HR2 := Lib.hid hr
      clear hr
      have BX : Hid (BoxN (wr.alloc (.cells #[.int .i64 x0, .int .i64 x1, .int .i64 x2, .int .i64 x3, .int .i64 x4] 93)) wr.heap.size [.int .i64 x0, .int .i64 x1, .int .i64 x2, .int .i64 x3, .int .i64 x4]) := BoxN.made (Below.refl _ _) rfl
      have SN : Hid (SeenN 64 (wr.alloc (.cells #[.int .i64 x0, .int .i64 x1, .int .i64 x2, .int .i64 x3, .int .i64 x4] 93)) w.heap.size M) := hS.out.below ((Below.refl _ _).alloc (Nat.le_refl _) _)
      have HB2 : Hid (Below w.heap.size w (wr.alloc (.cells #[.int .i64 x0, .int .i64 x1, .int .i64 x2, .int .i64 x3, .int .i64 x4] 93))) := hb.alloc hsz _
      clear hS
      cases r with
      | false =>
        have hf : R = false := HN.out fun h => by have := HR2.out.2 h.1; cases this
        subst hf
        clear HN HS HR2 HP HE HSm HPK

        obtain ⟨S, HSd⟩ : ∃ S : World → Prop, S = fun w' => BoxN w' wr.heap.size [.int .i64 x0, .int .i64 x1, .int .i64 x2, .int .i64 x3, .int .i64 x4] ∧ SeenN 64 w' w.heap.size M ∧ Below w.heap.size w w' := ⟨_, rfl⟩
        have KS : Hid (∀ wa wb, S wa → Below wa.heap.size wa wb → S wb) := by subst HSd; exact fun wa wb ⟨bx, sn, hb⟩ b => ⟨bx.below b, sn.below b, hb.trans (b.mono hb.size)⟩
        have OS : Hid (∀ wa, S wa → BoxN wa wr.heap.size [.int .i64 x0, .int .i64 x1, .int .i64 x2, .int .i64 x3, .int .i64 x4] ∧ SeenN 64 wa w.heap.size M ∧ Below w.heap.size w wa) := by subst HSd; exact fun wa h => h
        have KS0 : Hid (S (wr.alloc (.cells #[.int .i64 x0, .int .i64 x1, .int .i64 x2, .int .i64 x3, .int .i64 x4] 93)).drew) := by subst HSd; exact ⟨BX.out.below (Below.refl _ _).drew, SN.out.below (Below.refl _ _).drew, HB2.out.drew⟩
        clear HSd
        go_wp2_with fail
        refine wp_region_held_drew (S := S) (by kernel_rfl) ?_ (fun hHeld => ?_)
        · exact KS0.out
        clear KS0 hb
        refine wpAnyH_take (i := 0) (v := ?_) rfl (by kernel_rfl) (by kernel_rfl) (by kernel_rfl) (fun _ _ _ h => h) (Or.inl ⟨by rfl, ?_⟩) (by assumption) ?_
        rotate_left
        · (intro wa hSw; obtain ⟨bx, sn, hb⟩ := OS.out _ hSw; have cb0 := bx.2 0 _ rfl; have cb1 := bx.2 1 _ rfl; have cb2 := bx.2 2 _ rfl; have cb3 := bx.2 3 _ rfl; have cb4 := bx.2 4 _ rfl; go_simp; try with_reducible rfl)
        simp only [Act.put, List.getElem_toArray, List.getElem_cons_zero, List.setIfInBounds_toArray, List.set_cons_zero, List.set_cons_succ]
        refine wpAnyH_take (i := 1) (v := ?_) rfl (by kernel_rfl) (by kernel_rfl) (by kernel_rfl) (fun _ _ _ h => h) (Or.inl ⟨by rfl, ?_⟩) (by assumption) ?_
        rotate_left
        · (intro wa hSw; obtain ⟨bx, sn, hb⟩ := OS.out _ hSw; have cb0 := bx.2 0 _ rfl; have cb1 := bx.2 1 _ rfl; have cb2 := bx.2 2 _ rfl; have cb3 := bx.2 3 _ rfl; have cb4 := bx.2 4 _ rfl; go_simp; try with_reducible rfl)
        simp only [Act.put, List.getElem_toArray, List.getElem_cons_zero, List.getElem_cons_succ, List.setIfInBounds_toArray, List.set_cons_zero, List.set_cons_succ]
        refine wpAnyH_ready (rs := [2]) (by kernel_rfl) (by simp) ?_
        refine AllReadyH.cons (o := _) rfl (fun K hK => ?_) AllReadyH.nil
        go_simp
        obtain ⟨bx, sn, hb⟩ := OS.out _ hHeld
        refine (C.out _).mono ?_
        rintro e w101 ⟨rfl, b101⟩
        clear bx sn hb
        (try go_wp2_with fail)
        refine hK.out _ _ ?_ (fun hHeld101 => ?_)
        · exact KS.out _ _ hHeld b101
        clear hK K
        refine wpAnyH_take (i := 3) (v := ?_) rfl (by kernel_rfl) (by kernel_rfl) (by kernel_rfl) (fun _ _ _ h => h) (Or.inl ⟨by rfl, ?_⟩) (by assumption) ?_
        rotate_left
        · (intro wa hSw; obtain ⟨bx, sn, hb⟩ := OS.out _ hSw; have cb0 := bx.2 0 _ rfl; have cb1 := bx.2 1 _ rfl; have cb2 := bx.2 2 _ rfl; have cb3 := bx.2 3 _ rfl; have cb4 := bx.2 4 _ rfl; go_simp; try with_reducible rfl)
        simp only [Act.put, List.getElem_toArray, List.getElem_cons_zero, List.getElem_cons_succ, List.setIfInBounds_toArray, List.set_cons_zero, List.set_cons_succ]
        refine wpAnyH_take (i := 4) (v := ?_) rfl (by kernel_rfl) (by kernel_rfl) (by kernel_rfl) (fun _ _ _ h => h) (Or.inl ⟨by rfl, ?_⟩) (by assumption) ?_
        rotate_left
        · (intro wa hSw; obtain ⟨bx, sn, hb⟩ := OS.out _ hSw; have cb0 := bx.2 0 _ rfl; have cb1 := bx.2 1 _ rfl; have cb2 := bx.2 2 _ rfl; have cb3 := bx.2 3 _ rfl; have cb4 := bx.2 4 _ rfl; go_simp; try with_reducible rfl)
        simp only [Act.put, List.getElem_toArray, List.getElem_cons_zero, List.getElem_cons_succ, List.setIfInBounds_toArray, List.set_cons_zero, List.set_cons_succ]
        refine wpAnyH_take (i := 5) (v := undef) rfl (by kernel_rfl) (by kernel_rfl) (by kernel_rfl) (fun _ _ _ h => h) (Or.inr ⟨by rfl, rfl⟩) (by assumption) ?_
        simp only [Act.put, List.getElem_toArray, List.getElem_cons_zero, List.getElem_cons_succ, List.setIfInBounds_toArray, List.set_cons_zero, List.set_cons_succ]
        refine wpAnyH_take (i := 6) (v := undef) rfl (by kernel_rfl) (by kernel_rfl) (by kernel_rfl) (fun _ _ _ h => h) (Or.inr ⟨by rfl, rfl⟩) (by assumption) ?_
        simp only [Act.put, List.getElem_toArray, List.getElem_cons_zero, List.getElem_cons_succ, List.setIfInBounds_toArray, List.set_cons_zero, List.set_cons_succ]
        refine wpAnyH_take (i := 7) (v := undef) rfl (by kernel_rfl) (by kernel_rfl) (by kernel_rfl) (fun _ _ _ h => h) (Or.inr ⟨by rfl, rfl⟩) (by assumption) ?_
        simp only [Act.put, List.getElem_toArray, List.getElem_cons_zero, List.getElem_cons_succ, List.setIfInBounds_toArray, List.set_cons_zero, List.set_cons_succ]
        refine wpAnyH_take (i := 8) (v := undef) rfl (by kernel_rfl) (by kernel_rfl) (by kernel_rfl) (fun _ _ _ h => h) (Or.inr ⟨by rfl, rfl⟩) (by assumption) ?_
        simp only [Act.put, List.getElem_toArray, List.getElem_cons_zero, List.getElem_cons_succ, List.setIfInBounds_toArray, List.set_cons_zero, List.set_cons_succ]
        refine wpAnyH_take (i := 9) (v := undef) rfl (by kernel_rfl) (by kernel_rfl) (by kernel_rfl) (fun _ _ _ h => h) (Or.inr ⟨by rfl, rfl⟩) (by assumption) ?_
        simp only [Act.put, List.getElem_toArray, List.getElem_cons_zero, List.getElem_cons_succ, List.setIfInBounds_toArray, List.set_cons_zero, List.set_cons_succ]
        refine wpAnyH_take (i := 10) (v := undef) rfl (by kernel_rfl) (by kernel_rfl) (by kernel_rfl) (fun _ _ _ h => h) (Or.inr ⟨by rfl, rfl⟩) (by assumption) ?_
        simp only [Act.put, List.getElem_toArray, List.getElem_cons_zero, List.getElem_cons_succ, List.setIfInBounds_toArray, List.set_cons_zero, List.set_cons_succ]
        refine wpAnyH_take (i := 11) (v := undef) rfl (by kernel_rfl) (by kernel_rfl) (by kernel_rfl) (fun _ _ _ h => h) (Or.inr ⟨by rfl, rfl⟩) (by assumption) ?_
        simp only [Act.put, List.getElem_toArray, List.getElem_cons_zero, List.getElem_cons_succ, List.setIfInBounds_toArray, List.set_cons_zero, List.set_cons_succ]
        refine wpAnyH_take (i := 12) (v := ?_) rfl (by kernel_rfl) (by kernel_rfl) (by kernel_rfl) (fun _ _ _ h => h) (Or.inl ⟨by rfl, ?_⟩) (by assumption) ?_
        rotate_left
        · (intro wa hSw; obtain ⟨bx, sn, hb⟩ := OS.out _ hSw; have cb0 := bx.2 0 _ rfl; have cb1 := bx.2 1 _ rfl; have cb2 := bx.2 2 _ rfl; have cb3 := bx.2 3 _ rfl; have cb4 := bx.2 4 _ rfl; go_simp; try with_reducible rfl)
        simp only [Act.put, List.getElem_toArray, List.getElem_cons_zero, List.getElem_cons_succ, List.setIfInBounds_toArray, List.set_cons_zero, List.set_cons_succ]
        refine wpAnyH_done (by kernel_rfl) ?_ _
        obtain ⟨bx, sn, hb⟩ := OS.out _ hHeld101
        clear KS OS hHeld hHeld101
        (try go_wp2)
        go_ret
        exact ⟨rfl, hb⟩
      | true =>
        have hgp := HR2.out.1 rfl
        obtain ⟨⟨n1, n2⟩, ⟨q1, q2⟩, ⟨q3, q4⟩, _⟩ := hgp
        simp only at q1 q2 q3 q4
        obtain ⟨p, rfl⟩ : ∃ p : Nat, x0 = p := ⟨x0.toNat, by omega⟩
        obtain ⟨q, rfl⟩ : ∃ q : Nat, x1 = q := ⟨x1.toNat, by omega⟩
        have p8 : p < 8 := by omega
        have q8 : q < 8 := by omega
        have p8' : (p : Int) < 8 := by omega
        have q8' : (q : Int) < 8 := by omega
        have hpk : pk = ((p * 8 + q : Nat) : Int) := by rw [HPK.out]; simp
        have HSv := Lib.hid (HSm.out _ (by omega) hpk)
        have HEv := Lib.hid (HE.out _ hpk)
        have HPv := Lib.hid (HP.out (HR2.out.1 rfl))
        have HGP := Lib.hid (HR2.out.1 rfl)
        clear HSm HE HP HPK hpk HR2 n1 n2 q1 q2 q3 q4
        obtain ⟨s, HSV⟩ : ∃ s, Hid (M (p * 8 + q) = s) := ⟨_, rfl⟩
        cases s with
        | true =>
          have hf : R = false := HN.out fun h => (HPv.out.1 h.2) (HSv.out.1 HSV.out)
          subst hf
          clear HN HS HEv HPv HSv HGP

          obtain ⟨S, HSd⟩ : ∃ S : World → Prop, S = fun w' => BoxN w' wr.heap.size [.int .i64 (p : Int), .int .i64 (q : Int), .int .i64 x2, .int .i64 x3, .int .i64 x4] ∧ SeenN 64 w' w.heap.size M ∧ Below w.heap.size w w' := ⟨_, rfl⟩
          have KS : Hid (∀ wa wb, S wa → Below wa.heap.size wa wb → S wb) := by subst HSd; exact fun wa wb ⟨bx, sn, hb⟩ b => ⟨bx.below b, sn.below b, hb.trans (b.mono hb.size)⟩
          have OS : Hid (∀ wa, S wa → BoxN wa wr.heap.size [.int .i64 (p : Int), .int .i64 (q : Int), .int .i64 x2, .int .i64 x3, .int .i64 x4] ∧ SeenN 64 wa w.heap.size M ∧ Below w.heap.size w wa) := by subst HSd; exact fun wa h => h
          have KS0 : Hid (S (wr.alloc (.cells #[.int .i64 (p : Int), .int .i64 (q : Int), .int .i64 x2, .int .i64 x3, .int .i64 x4] 93)).drew) := by subst HSd; exact ⟨BX.out.below (Below.refl _ _).drew, SN.out.below (Below.refl _ _).drew, HB2.out.drew⟩
          clear HSd
          go_wp2_with fail
          refine wp_region_held_drew (S := S) (by kernel_rfl) ?_ (fun hHeld => ?_)
          · exact KS0.out
          clear KS0 hb
          refine wpAnyH_take (i := 0) (v := ?_) rfl (by kernel_rfl) (by kernel_rfl) (by kernel_rfl) (fun _ _ _ h => h) (Or.inl ⟨by rfl, ?_⟩) (by assumption) ?_
          rotate_left
          · (intro wa hSw; obtain ⟨bx, sn, hb⟩ := OS.out _ hSw; have cb0 := bx.2 0 _ rfl; have cb1 := bx.2 1 _ rfl; have cb2 := bx.2 2 _ rfl; have cb3 := bx.2 3 _ rfl; have cb4 := bx.2 4 _ rfl; have cs := (sn.2 (p * 8 + q) (by omega)).1; rw [HSV.out] at cs; go_simp; try with_reducible rfl)
          simp only [Act.put, List.getElem_toArray, List.getElem_cons_zero, List.setIfInBounds_toArray, List.set_cons_zero, List.set_cons_succ]
          refine wpAnyH_take (i := 1) (v := ?_) rfl (by kernel_rfl) (by kernel_rfl) (by kernel_rfl) (fun _ _ _ h => h) (Or.inl ⟨by rfl, ?_⟩) (by assumption) ?_
          rotate_left
          · (intro wa hSw; obtain ⟨bx, sn, hb⟩ := OS.out _ hSw; have cb0 := bx.2 0 _ rfl; have cb1 := bx.2 1 _ rfl; have cb2 := bx.2 2 _ rfl; have cb3 := bx.2 3 _ rfl; have cb4 := bx.2 4 _ rfl; have cs := (sn.2 (p * 8 + q) (by omega)).1; rw [HSV.out] at cs; go_simp; try with_reducible rfl)
          simp only [Act.put, List.getElem_toArray, List.getElem_cons_zero, List.getElem_cons_succ, List.setIfInBounds_toArray, List.set_cons_zero, List.set_cons_succ]
          refine wpAnyH_ready (rs := [2]) (by kernel_rfl) (by simp) ?_
          refine AllReadyH.cons (o := _) rfl (fun K hK => ?_) AllReadyH.nil
          go_simp
          obtain ⟨bx, sn, hb⟩ := OS.out _ hHeld
          refine (C.out _).mono ?_
          rintro e w101 ⟨rfl, b101⟩
          clear bx sn hb
          (try go_wp2_with fail)
          refine hK.out _ _ ?_ (fun hHeld101 => ?_)
          · exact KS.out _ _ hHeld b101
          clear hK K
          refine wpAnyH_take (i := 3) (v := ?_) rfl (by kernel_rfl) (by kernel_rfl) (by kernel_rfl) (fun _ _ _ h => h) (Or.inl ⟨by rfl, ?_⟩) (by assumption) ?_
          rotate_left
          · (intro wa hSw; obtain ⟨bx, sn, hb⟩ := OS.out _ hSw; have cb0 := bx.2 0 _ rfl; have cb1 := bx.2 1 _ rfl; have cb2 := bx.2 2 _ rfl; have cb3 := bx.2 3 _ rfl; have cb4 := bx.2 4 _ rfl; have cs := (sn.2 (p * 8 + q) (by omega)).1; rw [HSV.out] at cs; go_simp; try with_reducible rfl)
          simp only [Act.put, List.getElem_toArray, List.getElem_cons_zero, List.getElem_cons_succ, List.setIfInBounds_toArray, List.set_cons_zero, List.set_cons_succ]
          refine wpAnyH_take (i := 4) (v := ?_) rfl (by kernel_rfl) (by kernel_rfl) (by kernel_rfl) (fun _ _ _ h => h) (Or.inl ⟨by rfl, ?_⟩) (by assumption) ?_
          rotate_left
          · (intro wa hSw; obtain ⟨bx, sn, hb⟩ := OS.out _ hSw; have cb0 := bx.2 0 _ rfl; have cb1 := bx.2 1 _ rfl; have cb2 := bx.2 2 _ rfl; have cb3 := bx.2 3 _ rfl; have cb4 := bx.2 4 _ rfl; have cs := (sn.2 (p * 8 + q) (by omega)).1; rw [HSV.out] at cs; go_simp; try with_reducible rfl)
          simp only [Act.put, List.getElem_toArray, List.getElem_cons_zero, List.getElem_cons_succ, List.setIfInBounds_toArray, List.set_cons_zero, List.set_cons_succ]
          refine wpAnyH_take (i := 5) (v := ?_) rfl (by kernel_rfl) (by kernel_rfl) (by kernel_rfl) (fun _ _ _ h => h) (Or.inl ⟨by rfl, ?_⟩) (by assumption) ?_
          rotate_left
          · (intro wa hSw; obtain ⟨bx, sn, hb⟩ := OS.out _ hSw; have cb0 := bx.2 0 _ rfl; have cb1 := bx.2 1 _ rfl; have cb2 := bx.2 2 _ rfl; have cb3 := bx.2 3 _ rfl; have cb4 := bx.2 4 _ rfl; have cs := (sn.2 (p * 8 + q) (by omega)).1; rw [HSV.out] at cs; go_simp; try with_reducible rfl)
          simp only [Act.put, List.getElem_toArray, List.getElem_cons_zero, List.getElem_cons_succ, List.setIfInBounds_toArray, List.set_cons_zero, List.set_cons_succ]
          refine wpAnyH_take (i := 6) (v := ?_) rfl (by kernel_rfl) (by kernel_rfl) (by kernel_rfl) (fun _ _ _ h => h) (Or.inl ⟨by rfl, ?_⟩) (by assumption) ?_
          rotate_left
          · (intro wa hSw; obtain ⟨bx, sn, hb⟩ := OS.out _ hSw; have cb0 := bx.2 0 _ rfl; have cb1 := bx.2 1 _ rfl; have cb2 := bx.2 2 _ rfl; have cb3 := bx.2 3 _ rfl; have cb4 := bx.2 4 _ rfl; have cs := (sn.2 (p * 8 + q) (by omega)).1; rw [HSV.out] at cs; go_simp; try with_reducible rfl)
          simp only [Act.put, List.getElem_toArray, List.getElem_cons_zero, List.getElem_cons_succ, List.setIfInBounds_toArray, List.set_cons_zero, List.set_cons_succ]
          refine wpAnyH_take (i := 7) (v := ?_) rfl (by kernel_rfl) (by kernel_rfl) (by kernel_rfl) (fun _ _ _ h => h) (Or.inl ⟨by rfl, ?_⟩) (by assumption) ?_
          rotate_left
          · (intro wa hSw; obtain ⟨bx, sn, hb⟩ := OS.out _ hSw; have cb0 := bx.2 0 _ rfl; have cb1 := bx.2 1 _ rfl; have cb2 := bx.2 2 _ rfl; have cb3 := bx.2 3 _ rfl; have cb4 := bx.2 4 _ rfl; have cs := (sn.2 (p * 8 + q) (by omega)).1; rw [HSV.out] at cs; go_simp; try with_reducible rfl)
          simp only [Act.put, List.getElem_toArray, List.getElem_cons_zero, List.getElem_cons_succ, List.setIfInBounds_toArray, List.set_cons_zero, List.set_cons_succ]
          refine wpAnyH_take (i := 8) (v := ?_) rfl (by kernel_rfl) (by kernel_rfl) (by kernel_rfl) (fun _ _ _ h => h) (Or.inl ⟨by rfl, ?_⟩) (by assumption) ?_
          rotate_left
          · (intro wa hSw; obtain ⟨bx, sn, hb⟩ := OS.out _ hSw; have cb0 := bx.2 0 _ rfl; have cb1 := bx.2 1 _ rfl; have cb2 := bx.2 2 _ rfl; have cb3 := bx.2 3 _ rfl; have cb4 := bx.2 4 _ rfl; have cs := (sn.2 (p * 8 + q) (by omega)).1; rw [HSV.out] at cs; go_simp; try with_reducible rfl)
          simp only [Act.put, List.getElem_toArray, List.getElem_cons_zero, List.getElem_cons_succ, List.setIfInBounds_toArray, List.set_cons_zero, List.set_cons_succ]
          refine wpAnyH_take (i := 9) (v := ?_) rfl (by kernel_rfl) (by kernel_rfl) (by kernel_rfl) (fun _ _ _ h => h) (Or.inl ⟨by rfl, ?_⟩) (by assumption) ?_
          rotate_left
          · (intro wa hSw; obtain ⟨bx, sn, hb⟩ := OS.out _ hSw; have cb0 := bx.2 0 _ rfl; have cb1 := bx.2 1 _ rfl; have cb2 := bx.2 2 _ rfl; have cb3 := bx.2 3 _ rfl; have cb4 := bx.2 4 _ rfl; have cs := (sn.2 (p * 8 + q) (by omega)).1; rw [HSV.out] at cs; go_simp; try with_reducible rfl)
          simp only [Act.put, List.getElem_toArray, List.getElem_cons_zero, List.getElem_cons_succ, List.setIfInBounds_toArray, List.set_cons_zero, List.set_cons_succ]
          refine wpAnyH_take (i := 10) (v := ?_) rfl (by kernel_rfl) (by kernel_rfl) (by kernel_rfl) (fun _ _ _ h => h) (Or.inl ⟨by rfl, ?_⟩) (by assumption) ?_
          rotate_left
          · (intro wa hSw; obtain ⟨bx, sn, hb⟩ := OS.out _ hSw; have cb0 := bx.2 0 _ rfl; have cb1 := bx.2 1 _ rfl; have cb2 := bx.2 2 _ rfl; have cb3 := bx.2 3 _ rfl; have cb4 := bx.2 4 _ rfl; have cs := (sn.2 (p * 8 + q) (by omega)).1; rw [HSV.out] at cs; go_simp; try with_reducible rfl)
          simp only [Act.put, List.getElem_toArray, List.getElem_cons_zero, List.getElem_cons_succ, List.setIfInBounds_toArray, List.set_cons_zero, List.set_cons_succ]
          refine wpAnyH_take (i := 11) (v := ?_) rfl (by kernel_rfl) (by kernel_rfl) (by kernel_rfl) (fun _ _ _ h => h) (Or.inl ⟨by rfl, ?_⟩) (by assumption) ?_
          rotate_left
          · (intro wa hSw; obtain ⟨bx, sn, hb⟩ := OS.out _ hSw; have cb0 := bx.2 0 _ rfl; have cb1 := bx.2 1 _ rfl; have cb2 := bx.2 2 _ rfl; have cb3 := bx.2 3 _ rfl; have cb4 := bx.2 4 _ rfl; have cs := (sn.2 (p * 8 + q) (by omega)).1; rw [HSV.out] at cs; go_simp; try with_reducible rfl)
          simp only [Act.put, List.getElem_toArray, List.getElem_cons_zero, List.getElem_cons_succ, List.setIfInBounds_toArray, List.set_cons_zero, List.set_cons_succ]
          refine wpAnyH_take (i := 12) (v := ?_) rfl (by kernel_rfl) (by kernel_rfl) (by kernel_rfl) (fun _ _ _ h => h) (Or.inl ⟨by rfl, ?_⟩) (by assumption) ?_
          rotate_left
          · (intro wa hSw; obtain ⟨bx, sn, hb⟩ := OS.out _ hSw; have cb0 := bx.2 0 _ rfl; have cb1 := bx.2 1 _ rfl; have cb2 := bx.2 2 _ rfl; have cb3 := bx.2 3 _ rfl; have cb4 := bx.2 4 _ rfl; have cs := (sn.2 (p * 8 + q) (by omega)).1; rw [HSV.out] at cs; go_simp; try with_reducible rfl)
          simp only [Act.put, List.getElem_toArray, List.getElem_cons_zero, List.getElem_cons_succ, List.setIfInBounds_toArray, List.set_cons_zero, List.set_cons_succ]
          refine wpAnyH_done (by kernel_rfl) ?_ _
          obtain ⟨bx, sn, hb⟩ := OS.out _ hHeld101
          clear KS OS hHeld hHeld101
          (try go_wp2)
          go_ret
          exact ⟨rfl, hb⟩
        | false =>
          have HX := Lib.hid (HS.out ⟨HGP.out, HPv.out.2 fun h => by have := HSv.out.2 h; rw [HSV.out] at this; cases this⟩)
          clear HN HS HPv HSv HGP

          obtain ⟨S, HSd⟩ : ∃ S : World → Prop, S = fun w' => BoxN w' wr.heap.size [.int .i64 (p : Int), .int .i64 (q : Int), .int .i64 x2, .int .i64 x3, .int .i64 x4] ∧ SeenN 64 w' w.heap.size M ∧ Below w.heap.size w w' := ⟨_, rfl⟩
          have KS : Hid (∀ wa wb, S wa → Below wa.heap.size wa wb → S wb) := by subst HSd; exact fun wa wb ⟨bx, sn, hb⟩ b => ⟨bx.below b, sn.below b, hb.trans (b.mono hb.size)⟩
          have OS : Hid (∀ wa, S wa → BoxN wa wr.heap.size [.int .i64 (p : Int), .int .i64 (q : Int), .int .i64 x2, .int .i64 x3, .int .i64 x4] ∧ SeenN 64 wa w.heap.size M ∧ Below w.heap.size w wa) := by subst HSd; exact fun wa h => h
          have KS0 : Hid (S (wr.alloc (.cells #[.int .i64 (p : Int), .int .i64 (q : Int), .int .i64 x2, .int .i64 x3, .int .i64 x4] 93)).drew) := by subst HSd; exact ⟨BX.out.below (Below.refl _ _).drew, SN.out.below (Below.refl _ _).drew, HB2.out.drew⟩
          clear HSd
          go_wp2_with fail
          refine wp_region_held_drew (S := S) (by kernel_rfl) ?_ (fun hHeld => ?_)
          · exact KS0.out
          clear KS0 hb
          refine wpAnyH_take (i := 0) (v := ?_) rfl (by kernel_rfl) (by kernel_rfl) (by kernel_rfl) (fun _ _ _ h => h) (Or.inl ⟨by rfl, ?_⟩) (by assumption) ?_
          rotate_left
          · (intro wa hSw; obtain ⟨bx, sn, hb⟩ := OS.out _ hSw; have cb0 := bx.2 0 _ rfl; have cb1 := bx.2 1 _ rfl; have cb2 := bx.2 2 _ rfl; have cb3 := bx.2 3 _ rfl; have cb4 := bx.2 4 _ rfl; have cs := (sn.2 (p * 8 + q) (by omega)).1; rw [HSV.out] at cs; go_simp; try with_reducible rfl)
          simp only [Act.put, List.getElem_toArray, List.getElem_cons_zero, List.setIfInBounds_toArray, List.set_cons_zero, List.set_cons_succ]
          refine wpAnyH_take (i := 1) (v := ?_) rfl (by kernel_rfl) (by kernel_rfl) (by kernel_rfl) (fun _ _ _ h => h) (Or.inl ⟨by rfl, ?_⟩) (by assumption) ?_
          rotate_left
          · (intro wa hSw; obtain ⟨bx, sn, hb⟩ := OS.out _ hSw; have cb0 := bx.2 0 _ rfl; have cb1 := bx.2 1 _ rfl; have cb2 := bx.2 2 _ rfl; have cb3 := bx.2 3 _ rfl; have cb4 := bx.2 4 _ rfl; have cs := (sn.2 (p * 8 + q) (by omega)).1; rw [HSV.out] at cs; go_simp; try with_reducible rfl)
          simp only [Act.put, List.getElem_toArray, List.getElem_cons_zero, List.getElem_cons_succ, List.setIfInBounds_toArray, List.set_cons_zero, List.set_cons_succ]
          refine wpAnyH_ready (rs := [2]) (by kernel_rfl) (by simp) ?_
          refine AllReadyH.cons (o := _) rfl (fun K hK => ?_) AllReadyH.nil
          go_simp
          obtain ⟨bx, sn, hb⟩ := OS.out _ hHeld
          refine (C.out _).mono ?_
          rintro e w101 ⟨rfl, b101⟩
          clear bx sn hb
          (try go_wp2_with fail)
          refine hK.out _ _ ?_ (fun hHeld101 => ?_)
          · exact KS.out _ _ hHeld b101
          clear hK K
          refine wpAnyH_take (i := 3) (v := ?_) rfl (by kernel_rfl) (by kernel_rfl) (by kernel_rfl) (fun _ _ _ h => h) (Or.inl ⟨by rfl, ?_⟩) (by assumption) ?_
          rotate_left
          · (intro wa hSw; obtain ⟨bx, sn, hb⟩ := OS.out _ hSw; have cb0 := bx.2 0 _ rfl; have cb1 := bx.2 1 _ rfl; have cb2 := bx.2 2 _ rfl; have cb3 := bx.2 3 _ rfl; have cb4 := bx.2 4 _ rfl; have cs := (sn.2 (p * 8 + q) (by omega)).1; rw [HSV.out] at cs; go_simp; try with_reducible rfl)
          simp only [Act.put, List.getElem_toArray, List.getElem_cons_zero, List.getElem_cons_succ, List.setIfInBounds_toArray, List.set_cons_zero, List.set_cons_succ]
          refine wpAnyH_take (i := 4) (v := ?_) rfl (by kernel_rfl) (by kernel_rfl) (by kernel_rfl) (fun _ _ _ h => h) (Or.inl ⟨by rfl, ?_⟩) (by assumption) ?_
          rotate_left
          · (intro wa hSw; obtain ⟨bx, sn, hb⟩ := OS.out _ hSw; have cb0 := bx.2 0 _ rfl; have cb1 := bx.2 1 _ rfl; have cb2 := bx.2 2 _ rfl; have cb3 := bx.2 3 _ rfl; have cb4 := bx.2 4 _ rfl; have cs := (sn.2 (p * 8 + q) (by omega)).1; rw [HSV.out] at cs; go_simp; try with_reducible rfl)
          simp only [Act.put, List.getElem_toArray, List.getElem_cons_zero, List.getElem_cons_succ, List.setIfInBounds_toArray, List.set_cons_zero, List.set_cons_succ]
          refine wpAnyH_take (i := 5) (v := ?_) rfl (by kernel_rfl) (by kernel_rfl) (by kernel_rfl) (fun _ _ _ h => h) (Or.inl ⟨by rfl, ?_⟩) (by assumption) ?_
          rotate_left
          · (intro wa hSw; obtain ⟨bx, sn, hb⟩ := OS.out _ hSw; have cb0 := bx.2 0 _ rfl; have cb1 := bx.2 1 _ rfl; have cb2 := bx.2 2 _ rfl; have cb3 := bx.2 3 _ rfl; have cb4 := bx.2 4 _ rfl; have cs := (sn.2 (p * 8 + q) (by omega)).1; rw [HSV.out] at cs; go_simp; try with_reducible rfl)
          simp only [Act.put, List.getElem_toArray, List.getElem_cons_zero, List.getElem_cons_succ, List.setIfInBounds_toArray, List.set_cons_zero, List.set_cons_succ]
          refine wpAnyH_take (i := 6) (v := ?_) rfl (by kernel_rfl) (by kernel_rfl) (by kernel_rfl) (fun _ _ _ h => h) (Or.inl ⟨by rfl, ?_⟩) (by assumption) ?_
          rotate_left
          · (intro wa hSw; obtain ⟨bx, sn, hb⟩ := OS.out _ hSw; have cb0 := bx.2 0 _ rfl; have cb1 := bx.2 1 _ rfl; have cb2 := bx.2 2 _ rfl; have cb3 := bx.2 3 _ rfl; have cb4 := bx.2 4 _ rfl; have cs := (sn.2 (p * 8 + q) (by omega)).1; rw [HSV.out] at cs; go_simp; try with_reducible rfl)
          simp only [Act.put, List.getElem_toArray, List.getElem_cons_zero, List.getElem_cons_succ, List.setIfInBounds_toArray, List.set_cons_zero, List.set_cons_succ]
          refine wpAnyH_take (i := 7) (v := ?_) rfl (by kernel_rfl) (by kernel_rfl) (by kernel_rfl) (fun _ _ _ h => h) (Or.inl ⟨by rfl, ?_⟩) (by assumption) ?_
          rotate_left
          · (intro wa hSw; obtain ⟨bx, sn, hb⟩ := OS.out _ hSw; have cb0 := bx.2 0 _ rfl; have cb1 := bx.2 1 _ rfl; have cb2 := bx.2 2 _ rfl; have cb3 := bx.2 3 _ rfl; have cb4 := bx.2 4 _ rfl; have cs := (sn.2 (p * 8 + q) (by omega)).1; rw [HSV.out] at cs; go_simp; try with_reducible rfl)
          simp only [Act.put, List.getElem_toArray, List.getElem_cons_zero, List.getElem_cons_succ, List.setIfInBounds_toArray, List.set_cons_zero, List.set_cons_succ]
          refine wpAnyH_take (i := 8) (v := ?_) rfl (by kernel_rfl) (by kernel_rfl) (by kernel_rfl) (fun _ _ _ h => h) (Or.inl ⟨by rfl, ?_⟩) (by assumption) ?_
          rotate_left
          · (intro wa hSw; obtain ⟨bx, sn, hb⟩ := OS.out _ hSw; have cb0 := bx.2 0 _ rfl; have cb1 := bx.2 1 _ rfl; have cb2 := bx.2 2 _ rfl; have cb3 := bx.2 3 _ rfl; have cb4 := bx.2 4 _ rfl; have cs := (sn.2 (p * 8 + q) (by omega)).1; rw [HSV.out] at cs; go_simp; try with_reducible rfl)
          simp only [Act.put, List.getElem_toArray, List.getElem_cons_zero, List.getElem_cons_succ, List.setIfInBounds_toArray, List.set_cons_zero, List.set_cons_succ]
          refine wpAnyH_take (i := 9) (v := ?_) rfl (by kernel_rfl) (by kernel_rfl) (by kernel_rfl) (fun _ _ _ h => h) (Or.inl ⟨by rfl, ?_⟩) (by assumption) ?_
          rotate_left
          · (intro wa hSw; obtain ⟨bx, sn, hb⟩ := OS.out _ hSw; have cb0 := bx.2 0 _ rfl; have cb1 := bx.2 1 _ rfl; have cb2 := bx.2 2 _ rfl; have cb3 := bx.2 3 _ rfl; have cb4 := bx.2 4 _ rfl; have cs := (sn.2 (p * 8 + q) (by omega)).1; rw [HSV.out] at cs; go_simp; try with_reducible rfl)
          simp only [Act.put, List.getElem_toArray, List.getElem_cons_zero, List.getElem_cons_succ, List.setIfInBounds_toArray, List.set_cons_zero, List.set_cons_succ]
          refine wpAnyH_take (i := 10) (v := ?_) rfl (by kernel_rfl) (by kernel_rfl) (by kernel_rfl) (fun _ _ _ h => h) (Or.inl ⟨by rfl, ?_⟩) (by assumption) ?_
          rotate_left
          · (intro wa hSw; obtain ⟨bx, sn, hb⟩ := OS.out _ hSw; have cb0 := bx.2 0 _ rfl; have cb1 := bx.2 1 _ rfl; have cb2 := bx.2 2 _ rfl; have cb3 := bx.2 3 _ rfl; have cb4 := bx.2 4 _ rfl; have cs := (sn.2 (p * 8 + q) (by omega)).1; rw [HSV.out] at cs; go_simp; try with_reducible rfl)
          simp only [Act.put, List.getElem_toArray, List.getElem_cons_zero, List.getElem_cons_succ, List.setIfInBounds_toArray, List.set_cons_zero, List.set_cons_succ]
          refine wpAnyH_take (i := 11) (v := ?_) rfl (by kernel_rfl) (by kernel_rfl) (by kernel_rfl) (fun _ _ _ h => h) (Or.inl ⟨by rfl, ?_⟩) (by assumption) ?_
          rotate_left
          · (intro wa hSw; obtain ⟨bx, sn, hb⟩ := OS.out _ hSw; have cb0 := bx.2 0 _ rfl; have cb1 := bx.2 1 _ rfl; have cb2 := bx.2 2 _ rfl; have cb3 := bx.2 3 _ rfl; have cb4 := bx.2 4 _ rfl; have cs := (sn.2 (p * 8 + q) (by omega)).1; rw [HSV.out] at cs; go_simp; try with_reducible rfl)
          simp only [Act.put, List.getElem_toArray, List.getElem_cons_zero, List.getElem_cons_succ, List.setIfInBounds_toArray, List.set_cons_zero, List.set_cons_succ]
          refine wpAnyH_take (i := 12) (v := ?_) rfl (by kernel_rfl) (by kernel_rfl) (by kernel_rfl) (fun _ _ _ h => h) (Or.inl ⟨by rfl, ?_⟩) (by assumption) ?_
          rotate_left
          · (intro wa hSw; obtain ⟨bx, sn, hb⟩ := OS.out _ hSw; have cb0 := bx.2 0 _ rfl; have cb1 := bx.2 1 _ rfl; have cb2 := bx.2 2 _ rfl; have cb3 := bx.2 3 _ rfl; have cb4 := bx.2 4 _ rfl; have cs := (sn.2 (p * 8 + q) (by omega)).1; rw [HSV.out] at cs; go_simp; try with_reducible rfl)
          simp only [Act.put, List.getElem_toArray, List.getElem_cons_zero, List.getElem_cons_succ, List.setIfInBounds_toArray, List.set_cons_zero, List.set_cons_succ]
          refine wpAnyH_done (by kernel_rfl) ?_ _
          obtain ⟨bx, sn, hb⟩ := OS.out _ hHeld101
          clear KS OS hHeld hHeld101
          have HX2 := Lib.hid bx
          have cb0 := bx.2 0 _ rfl
          have cb1 := bx.2 1 _ rfl
          have SN2 := Lib.hid (sn.set (p * 8 + q) (by omega))
          have hl := sn.1
          obtain ⟨cs, fz⟩ := sn.2 (p * 8 + q) (by omega)
          clear bx sn
          go_wp2_with fail
          go_region
          all_goals (try go_wp2)
          all_goals go_roundw
          case rel => exact ⟨k + 1, _, by omega, by go_num, HX.out, SN2.out, HEv.out, (hb.setCell (p := ⟨w.heap.size, p * 8 + q, none⟩) (Nat.le_refl _) _).drew⟩
          case measure => simp [RowKit.intOf]; omega
    · obtain rfl : k = m := by omega
      obtain rfl := HYES.out hok.out
      clear HNO HYES hok hS hSk
      go_wp2
      go_ret
      exact ⟨rfl, hb⟩
end Go.Proofs.YteciobkjfmddcaaGreatDoor
set_option linter.unusedVariables false
namespace Go.Proofs.YteciobkjfmddcaaGreatDoor
open Go.RowKit

theorem IsRow.ints {w : World} {a : Option Addr} {len cap : Nat} {zs : List Int} (h : IsRow .i64 w a len cap zs) : IntRow w (.slice a len cap) len (getI zs) ∧ len ≤ 9223372036854775807 := by
  rcases h with ⟨rfl, rfl, rfl, rfl⟩ | ⟨x, rfl, hl, hm, hz, hc, _⟩
  · exact ⟨.inl ⟨_, _, rfl, rfl⟩, by omega⟩
  · unfold maxLen at hm
    refine ⟨?_, by omega⟩
    by_cases h0 : len = 0
    · subst h0; exact .inl ⟨_, _, rfl, rfl⟩
    · obtain ⟨b, off, spot⟩ := x
      have hspot : spot = none := by simpa [Addr.add] using World.cell?_spot (hc 0 (by omega))
      subst hspot
      refine .inr ⟨b, off, cap, rfl, by omega, by omega, fun i hi => ?_, hl⟩
      have hadd : (⟨b, off, none⟩ : Addr).add i = ⟨b, off + i, none⟩ := by unfold Addr.add; split <;> simp_all
      rw [← hadd]
      exact hc i (by omega)

theorem slicesIndex_int (v : Value) (n : Nat) (g : Nat → Int) (x : Int) (w : World) (h : IntRow w v n g) :
    Calls Tryz.prog 44 #[v, .int .i64 x] w fun e w' => e = .returned (.int .i64 (placeI g x n 0)) ∧ w = w' := by
  obtain ⟨a, cap, rfl, hn, hv⟩ := h.form
  have HV := Lib.hid hv
  clear hv h
  generalize hr : placeI g x n 0 = R
  have HR := Lib.hid hr
  clear hr
  go_enter Tryz.func44, Tryz.ntmps44
  go_wp2
  go_loop [8] (fun i => ∃ k : Nat, k ≤ n ∧ i = .int .i64 k ∧ Hid (placeI g x (n - k) k = R)) (fun i => n - (RowKit.intOf i).toNat)
  case atStart => exact ⟨0, Nat.zero_le _, rfl, HR.out⟩
  case round =>
    obtain ⟨k, hk, rfl, hp⟩ := hrel
    by_cases hlt : k < n
    · obtain ⟨b, off, rfl, hc⟩ := HV.out (by omega)
      have c1 := hc k hlt
      have hstep : (if g k = x then (k : Int) else placeI g x (n - (k + 1)) (k + 1)) = R := by
        have := hp.out
        rw [show n - k = n - (k + 1) + 1 by omega] at this
        exact this
      clear hc HV hp
      by_cases hx : g k = x
      · rw [if_pos hx] at hstep
        subst hstep
        clear HR
        rw [hx] at c1
        clear hx
        go_wp2
        go_ret
        exact ⟨rfl, rfl⟩
      · rw [if_neg hx] at hstep
        have HS := Lib.hid hstep
        have g1 : (x == g k) = false := by simpa using fun h : x = g k => hx h.symm
        clear hx hstep
        generalize g k = y at c1 g1
        go_wp2
        go_round
        case rel => exact ⟨k + 1, by omega, by go_num, HS.out⟩
        case measure => simp [RowKit.intOf]; omega
    · obtain rfl : k = n := by omega
      have hR : R = -1 := by rw [← hp.out, Nat.sub_self]; rfl
      subst hR
      clear hp HR
      go_wp2
      go_ret
      exact ⟨rfl, rfl⟩
def Seen8 (w : World) (B : Nat) (S : Nat → Bool) : Prop := B < w.heap.size ∧ ∀ j, j < 8 → w.cell? ⟨B, j, none⟩ = some (.bool (S j)) ∧ w.frozen? ⟨B, j, none⟩ = false
theorem Seen8.made (w : World) (t : TypeId) : Seen8 (w.alloc (.cells #[.bool false, .bool false, .bool false, .bool false, .bool false, .bool false, .bool false, .bool false] t)) w.heap.size (fun _ => false) := by
  refine ⟨by simp, fun j hj => ⟨?_, ?_⟩⟩
  · rw [cell_of_row _ w.heap.size j _ t (0, 0) (heap_alloc_new w _)]
    have : j = 0 ∨ j = 1 ∨ j = 2 ∨ j = 3 ∨ j = 4 ∨ j = 5 ∨ j = 6 ∨ j = 7 := by omega
    rcases this with rfl | rfl | rfl | rfl | rfl | rfl | rfl | rfl <;> rfl
  · exact frozen_of_row _ w.heap.size j _ t (heap_alloc_new w _)
theorem Seen8.set {w : World} {B : Nat} {S : Nat → Bool} (h : Seen8 w B S) (m : Nat) (hm : m < 8) : Seen8 (w.setCell ⟨B, m, none⟩ (.bool true)) B (fun j => S j || decide (j = m)) := by
  refine ⟨by simpa [World.setCell] using h.1, fun j hj => ⟨?_, (World.frozen?_setCell _ _ _ _).trans (h.2 j hj).2⟩⟩
  by_cases hjm : j = m
  · subst hjm
    rw [World.cell?_setCell_same' _ _ _ (by rw [(h.2 j hj).1]; rfl)]
    simp
  · rw [World.cell?_setCell_other _ _ _ _ (by intro e; simp only [Addr.mk.injEq] at e; omega), (h.2 j hj).1]
    simp [hjm]
end Go.Proofs.YteciobkjfmddcaaGreatDoor
set_option linter.unusedVariables false
namespace Go.Proofs.YteciobkjfmddcaaGreatDoor
open Go.RowKit

theorem placeI_pos (g : Nat → Int) (x : Int) (r : Nat) : ∀ k, 0 ≤ placeI g x r k ↔ ∃ j, k ≤ j ∧ j < k + r ∧ g j = x := by
  induction r with
  | zero => intro k; unfold placeI; constructor
            · intro h; omega
            · rintro ⟨j, h1, h2, _⟩; omega
  | succ r ih =>
    intro k
    unfold placeI
    by_cases h : g k = x
    · rw [if_pos h]
      exact ⟨fun _ => ⟨k, Nat.le_refl _, by omega, h⟩, fun _ => by omega⟩
    · rw [if_neg h, ih (k + 1)]
      constructor
      · rintro ⟨j, h1, h2, h3⟩; exact ⟨j, by omega, by omega, h3⟩
      · rintro ⟨j, h1, h2, h3⟩
        refine ⟨j, ?_, by omega, h3⟩
        rcases Nat.lt_or_ge k j with h4 | h4
        · omega
        · obtain rfl : j = k := by omega
          exact absurd h3 h
theorem placeI_has (g : Nat → Int) (x : Int) (n : Nat) : 0 ≤ placeI g x n 0 ↔ hasP g x n := by
  rw [placeI_pos]
  constructor
  · rintro ⟨j, _, h2, h3⟩; exact ⟨j, by omega, h3⟩
  · rintro ⟨j, h2, h3⟩; exact ⟨j, by omega, by omega, h3⟩
theorem slicesContains_int (v : Value) (n : Nat) (g : Nat → Int) (x : Int) (R : Bool) (w : World) (hR : R = true ↔ hasP g x n) (h : IntRow w v n g) :
    Calls Tryz.prog 20 #[v, .int .i64 x] w fun e w' => e = .returned (.bool R) ∧ w = w' := by
  have H := Lib.hid (slicesIndex_int v n g x w h)
  have hp : R = decide (0 ≤ placeI g x n 0) := by
    rw [Bool.eq_iff_iff, hR, decide_eq_true_eq, placeI_has]
  generalize placeI g x n 0 = q at *
  subst hp
  clear h hR
  go_enter Tryz.func20, Tryz.ntmps20
  go_wp2_with (go_at_call 44; refine H.out.mono ?_; rintro e w' ⟨rfl, rfl⟩)
  go_ret
  exact ⟨rfl, rfl⟩
theorem rulesOk_impl (win draw loss : Int) (ag R : Bool) (v : Value) (n : Nat) (g : Nat → Int) (w : World) (hR : R = true ↔ rulesP win draw loss n g) (h : IntRow w v n g) :
    Calls Tryz.prog 36 #[.agg #[.int .i64 win, .int .i64 draw, .int .i64 loss, v, .bool ag]] w fun e w' => e = .returned (.bool R) ∧ Below w.heap.size w w' := by
  by_cases hasc : 0 ≤ loss ∧ loss ≤ draw ∧ draw ≤ win ∧ win ≤ 10
  · obtain ⟨h1, h2, h3, h4⟩ := hasc
    have g1 : decide (0 ≤ loss) = true := decide_eq_true h1
    have g2 : decide (loss ≤ draw) = true := decide_eq_true h2
    have g3 : decide (draw ≤ win) = true := decide_eq_true h3
    have g4 : decide (win ≤ 10) = true := decide_eq_true h4
    have hR' : R = true ↔ ladP n g := by
      rw [hR]; unfold rulesP
      exact ⟨fun h => h.2.2.2, fun h => ⟨by omega, by omega, by omega, h⟩⟩
    have C := Lib.hid (fun w1 h1 => isLadder_impl n g R v w1 hR' h1)
    have HW := Lib.hid h
    clear hR hR' h
    go_enter Tryz.func36, Tryz.ntmps36
    go_wp2_with fail
    refine (C.out _ (HW.out.below ((Below.refl _ w).alloc (Nat.le_refl _) _) (Nat.le_refl _))).mono ?_
    rintro e w1 ⟨rfl, b1⟩
    go_wp2
    go_ret
    exact ⟨rfl, ((Below.refl _ w).alloc (Nat.le_refl _) _).trans (b1.mono (by simp))⟩
  · have hf : R = false := by
      cases R with
      | false => rfl
      | true => obtain ⟨⟨_, h1⟩, ⟨_, h2⟩, ⟨h3, h4⟩, _⟩ := hR.1 rfl
                exact absurd ⟨h3, h4, h2, h1⟩ hasc
    subst hf
    clear hR
    have g0 : decide (0 ≤ loss) = false ∨ (decide (0 ≤ loss) = true ∧ decide (loss ≤ draw) = false) ∨ (decide (0 ≤ loss) = true ∧ decide (loss ≤ draw) = true ∧ decide (draw ≤ win) = false) ∨
        (decide (0 ≤ loss) = true ∧ decide (loss ≤ draw) = true ∧ decide (draw ≤ win) = true ∧ decide (win ≤ 10) = false) := by
      simp only [decide_eq_true_eq, decide_eq_false_iff_not]; omega
    clear hasc
    rcases g0 with g1 | ⟨g1, g2⟩ | ⟨g1, g2, g3⟩ | ⟨g1, g2, g3, g4⟩
    all_goals
      go_enter Tryz.func36, Tryz.ntmps36
      go_wp2
      go_ret
      exact ⟨rfl, (Below.refl _ w).alloc (Nat.le_refl _) _⟩
theorem cells5 {w w2 : World} {t : TypeId} {a b c d f : Value} (h : Below (w.alloc (.cells #[a, b, c, d, f] t)).heap.size (w.alloc (.cells #[a, b, c, d, f] t)) w2) :
    w2.cell? ⟨w.heap.size, 0, none⟩ = some a ∧ w2.cell? ⟨w.heap.size, 1, none⟩ = some b ∧ w2.cell? ⟨w.heap.size, 2, none⟩ = some c ∧ w2.cell? ⟨w.heap.size, 3, none⟩ = some d ∧ w2.cell? ⟨w.heap.size, 4, none⟩ = some f := by
  have k : ∀ j, w2.cell? ⟨w.heap.size, j, none⟩ = #[a, b, c, d, f][j]? := fun j => by
    rw [h.cell (p := ⟨w.heap.size, j, none⟩) (by simp), cell_of_row _ w.heap.size j _ t (0, 0) (heap_alloc_new w _)]
  exact ⟨k 0, k 1, k 2, k 3, k 4⟩
theorem cells5_below {w w2 : World} {B : Nat} {a b c d f : Value} (k : w.cell? ⟨B, 0, none⟩ = some a ∧ w.cell? ⟨B, 1, none⟩ = some b ∧ w.cell? ⟨B, 2, none⟩ = some c ∧ w.cell? ⟨B, 3, none⟩ = some d ∧ w.cell? ⟨B, 4, none⟩ = some f) (h : Below w.heap.size w w2) :
    w2.cell? ⟨B, 0, none⟩ = some a ∧ w2.cell? ⟨B, 1, none⟩ = some b ∧ w2.cell? ⟨B, 2, none⟩ = some c ∧ w2.cell? ⟨B, 3, none⟩ = some d ∧ w2.cell? ⟨B, 4, none⟩ = some f := by
  have hb : B < w.heap.size := World.block_lt_of_cell? w _ k.1
  exact ⟨(h.cell (p := ⟨B, 0, none⟩) hb).trans k.1, (h.cell (p := ⟨B, 1, none⟩) hb).trans k.2.1, (h.cell (p := ⟨B, 2, none⟩) hb).trans k.2.2.1, (h.cell (p := ⟨B, 3, none⟩) hb).trans k.2.2.2.1, (h.cell (p := ⟨B, 4, none⟩) hb).trans k.2.2.2.2⟩
def decisiveP (win draw loss : Int) (n : Nat) (g : Nat → Int) : Prop := rulesP win draw loss n g ∧ hasP g 8 n
end Go.Proofs.YteciobkjfmddcaaGreatDoor
