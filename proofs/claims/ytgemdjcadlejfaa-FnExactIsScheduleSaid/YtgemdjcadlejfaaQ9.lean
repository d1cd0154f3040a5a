/-
  Packed: GamesImpl, RndImplD, RndImplE, Rounds3, Whole.
-/
import Derived.BigRegion
import Derived.Laws.Rows
import Derived.Laws.Tables
import Derived.Laws.ResultCell
import Derived.Test.YtgemdjcadlejfaaQ1
import Derived.Test.YtgemdjcadlejfaaQ5
import Derived.Test.YtgemdjcadlejfaaQ8
set_option linter.unusedVariables false
namespace Go.Proofs.Ytgemdjcadlejfaa
open Go.RowKit

theorem SeenN.below {K : Nat} {w w' : World} {B : Nat} {S : Nat → Bool} (h : SeenN K w B S) (hb : Below w.heap.size w w') : SeenN K w' B S :=
  ⟨Nat.lt_of_lt_of_le h.1 hb.size, fun j hj => ⟨(hb.cell (p := ⟨B, j, none⟩) h.1).trans (h.2 j hj).1, (hb.frozen (p := ⟨B, j, none⟩) h.1).trans (h.2 j hj).2⟩⟩
def pairG (g : Nat → GameD) (i : Nat) : Int := (g i).home * 8 + (g i).away
theorem pair_first {n : Int} {m k : Nat} {g : Nat → GameD} (hk : k < m) (hall : ∀ i, i < k → gameP n (g i)) (hg : gameP n (g k)) :
    firstI (atG g (g k).home (g k).away) m 0 = (k : Int) ↔ ¬ hasP (pairG g) (pairG g k) k := by
  rw [firstI_eq m 0 k]
  obtain ⟨⟨_, hn⟩, ⟨q1, q2⟩, ⟨q3, q4⟩, _⟩ := hg
  constructor
  · rintro ⟨_, _, h⟩ ⟨i, hi, e⟩
    obtain ⟨_, ⟨r1, r2⟩, ⟨r3, r4⟩, _⟩ := hall i hi
    have h2 := h i (Nat.zero_le _) hi
    unfold pairG at e
    have e1 : (g i).home = (g k).home := by omega
    have e2 : (g i).away = (g k).away := by omega
    unfold atG at h2
    rw [e1, e2] at h2
    simp at h2
  · intro h
    refine ⟨⟨Nat.zero_le _, by omega⟩, by simp [atG], fun i _ hi => ?_⟩
    cases hq : atG g (g k).home (g k).away i with
    | false => rfl
    | true =>
      unfold atG at hq
      simp only [Bool.and_eq_true, beq_iff_eq] at hq
      exact absurd ⟨i, hi, by unfold pairG; rw [hq.1, hq.2]⟩ h

set_option maxHeartbeats 1000000 in
theorem seasonOk_impl (n : Int) (v : Value) (m : Nat) (g : Nat → GameD) (R : Bool) (w : World) (hR : R = true ↔ seasonP n m g) (hv : GameRow w v m g) :
    Calls Try.prog 18 #[.int .i64 n, v] w fun e w' => e = .returned (.bool R) ∧ Below w.heap.size w w' := by
  obtain ⟨aa, cap, rfl, hn, hc⟩ := hv.form
  have HV := Lib.hid hc
  have HR := Lib.hid hR
  clear hc hv hR
  by_cases h60 : 60 < m
  · have g0 : decide (60 < (m : Int)) = true := decide_eq_true (by omega)
    have g0' : decide (60 < m) = true := decide_eq_true h60
    have hf : R = false := by
      cases R with
      | false => rfl
      | true => have := (HR.out.1 rfl).1; omega
    subst hf
    clear HR
    go_enter Try.func18, Try.ntmps18
    go_wp2
    go_ret
    exact ⟨rfl, Below.refl _ _⟩
  have g0 : decide (60 < (m : Int)) = false := decide_eq_false (by omega)
  have g0' : decide (60 < m) = false := decide_eq_false h60
  have HNO : Hid (∀ k, k < m → ¬ (gameP n (g k) ∧ firstI (atG g (g k).home (g k).away) m 0 = (k : Int)) → R = false) := fun k hk h => by
    cases R with
    | false => rfl
    | true => exact absurd ((HR.out.1 rfl).2 k hk) h
  have HYES : Hid ((∀ i, i < m → gameP n (g i) ∧ firstI (atG g (g i).home (g i).away) m 0 = (i : Int)) → R = true) := fun h => HR.out.2 ⟨by omega, h⟩
  clear HR
  have s1 := SeenN.made 64 w (Array.replicate 64 (.bool false)) 68 (fun j hj => by simp [hj])
  have es : Array.replicate 64 (Value.bool false) = #[.bool false, .bool false, .bool false, .bool false, .bool false, .bool false, .bool false, .bool false, .bool false, .bool false, .bool false, .bool false, .bool false, .bool false, .bool false, .bool false, .bool false, .bool false, .bool false, .bool false, .bool false, .bool false, .bool false, .bool false, .bool false, .bool false, .bool false, .bool false, .bool false, .bool false, .bool false, .bool false, .bool false, .bool false, .bool false, .bool false, .bool false, .bool false, .bool false, .bool false, .bool false, .bool false, .bool false, .bool false, .bool false, .bool false, .bool false, .bool false, .bool false, .bool false, .bool false, .bool false, .bool false, .bool false, .bool false, .bool false, .bool false, .bool false, .bool false, .bool false, .bool false, .bool false, .bool false, .bool false] := by rfl
  rw [es] at s1
  clear es
  go_enter Try.func18, Try.ntmps18
  go_wp2
  go_loopw [13] (fun i wr => ∃ (k : Nat) (M : Nat → Bool), k ≤ m ∧ i = .int .i64 k ∧ Hid (∀ i, i < k → gameP n (g i) ∧ firstI (atG g (g i).home (g i).away) m 0 = (i : Int)) ∧ Hid (SeenN 64 wr w.heap.size M) ∧ Hid (∀ j : Nat, j < 64 → (M j = true ↔ hasP (pairG g) j k)) ∧ Below w.heap.size w wr) (fun i _ => m - (RowKit.intOf i).toNat)
  case atStart => exact ⟨0, _, Nat.zero_le _, rfl, fun i hi => absurd hi (by omega), s1, fun j _ => ⟨fun h => absurd h (by simp), fun ⟨i, hi, _⟩ => absurd hi (by omega)⟩, (Below.refl _ _).alloc (Nat.le_refl _) _⟩
  case round =>
    clear s1
    obtain ⟨k, M, hk, rfl, hok, hS, hSk, hb⟩ := hrel
    by_cases hlt : k < m
    · obtain ⟨b, off, rfl, hcap, hc⟩ := HV.out (by omega)
      have hq := (hc k hlt).belowB hb (hc k hlt).1
      have HS : Hid ((gameP n (g k) ∧ firstI (atG g (g k).home (g k).away) m 0 = (k : Int)) → ∀ i, i < k + 1 → gameP n (g i) ∧ firstI (atG g (g i).home (g i).away) m 0 = (i : Int)) := fun h i hi => by
        by_cases hik : i = k
        · subst hik; exact h
        · exact hok.out i (by omega)
      have HN := Lib.hid (HNO.out k hlt)
      have HP : Hid (gameP n (g k) → (firstI (atG g (g k).home (g k).away) m 0 = (k : Int) ↔ ¬ hasP (pairG g) (pairG g k) k)) := fun h => pair_first hlt (fun i hi => (hok.out i hi).1) h
      have HE : Hid (∀ t : Nat, pairG g k = t → ∀ j : Nat, j < 64 → ((M j || decide (j = t)) = true ↔ hasP (pairG g) j (k + 1))) := fun t ht j hj => by
        simp only [Bool.or_eq_true, decide_eq_true_eq]
        constructor
        · rintro (h | rfl)
          · obtain ⟨i, hi, hij⟩ := (hSk.out j hj).1 h
            exact ⟨i, by omega, hij⟩
          · exact ⟨k, by omega, ht⟩
        · rintro ⟨i, hi, hij⟩
          by_cases hik : i = k
          · subst hik; right; omega
          · exact .inl ((hSk.out j hj).2 ⟨i, by omega, hij⟩)
      have HSm : Hid (∀ t : Nat, t < 64 → pairG g k = t → (M t = true ↔ hasP (pairG g) (pairG g k) k)) := fun t h6 ht => by rw [ht]; exact hSk.out t h6
      have HPK : Hid (pairG g k = (g k).home * 8 + (g k).away) := rfl
      generalize hasP (pairG g) (pairG g k) k = hp at *
      generalize pairG g k = pk at *
      generalize firstI (atG g (g k).home (g k).away) m 0 = fi at *
      generalize g k = x at *
      obtain ⟨x0, x1, x2, x3, x4⟩ := x
      obtain ⟨c0, c1, c2, c3, c4⟩ := game_cells hq
      simp only at c0 c1 c2 c3 c4 HPK
      have hsz := hb.size
      clear hc HV hq hok HNO HYES hSk
      obtain ⟨r, hr⟩ := bool_ex (gameP n ⟨x0, x1, x2, x3, x4⟩)
      have C := Lib.hid (fun w1 => gameOk_impl n x0 x1 x2 x3 x4 r w1 hr)
      have HR2 := Lib.hid hr
      clear hr
      have BX : Hid (BoxN (wr.alloc (.cells #[.int .i64 x0, .int .i64 x1, .int .i64 x2, .int .i64 x3, .int .i64 x4] 66)) wr.heap.size [.int .i64 x0, .int .i64 x1, .int .i64 x2, .int .i64 x3, .int .i64 x4]) := BoxN.made (Below.refl _ _) rfl
      have SN : Hid (SeenN 64 (wr.alloc (.cells #[.int .i64 x0, .int .i64 x1, .int .i64 x2, .int .i64 x3, .int .i64 x4] 66)) w.heap.size M) := hS.out.below ((Below.refl _ _).alloc (Nat.le_refl _) _)
      have HB2 : Hid (Below w.heap.size w (wr.alloc (.cells #[.int .i64 x0, .int .i64 x1, .int .i64 x2, .int .i64 x3, .int .i64 x4] 66))) := hb.alloc hsz _
      clear hS
      cases r with
      | false =>
        have hf : R = false := HN.out fun h => by have := HR2.out.2 h.1; cases this
        subst hf
        clear HN HS HR2 HP HE HSm HPK

        obtain ⟨S, HSd⟩ : ∃ S : World → Prop, S = fun w' => BoxN w' wr.heap.size [.int .i64 x0, .int .i64 x1, .int .i64 x2, .int .i64 x3, .int .i64 x4] ∧ SeenN 64 w' w.heap.size M ∧ Below w.heap.size w w' := ⟨_, rfl⟩
        have KS : Hid (∀ wa wb, S wa → Below wa.heap.size wa wb → S wb) := by subst HSd; exact fun wa wb ⟨bx, sn, hb⟩ b => ⟨bx.below b, sn.below b, hb.trans (b.mono hb.size)⟩
        have OS : Hid (∀ wa, S wa → BoxN wa wr.heap.size [.int .i64 x0, .int .i64 x1, .int .i64 x2, .int .i64 x3, .int .i64 x4] ∧ SeenN 64 wa w.heap.size M ∧ Below w.heap.size w wa) := by subst HSd; exact fun wa h => h
        have KS0 : Hid (S (wr.alloc (.cells #[.int .i64 x0, .int .i64 x1, .int .i64 x2, .int .i64 x3, .int .i64 x4] 66)).drew) := by subst HSd; exact ⟨BX.out.below (Below.refl _ _).drew, SN.out.below (Below.refl _ _).drew, HB2.out.drew⟩
        clear HSd
        go_wp2_with fail
        refine wp_region_held_drew (S := S) (by kernel_rfl) ?_ (fun hHeld => ?_)
        · exact KS0.out
        clear KS0 hb
        refine wpAnyH_take (i := 0) (v := ?_) rfl (by kernel_rfl) (by kernel_rfl) (by kernel_rfl) (fun _ _ _ h => h) (Or.inl ⟨by rfl, ?_⟩) (by assumption) ?_
        rotate_left
        · (intro wa hSw; obtain ⟨bx, sn, hb⟩ := OS.out _ hSw; have cb0 := bx.2 0 _ rfl; have cb1 := bx.2 1 _ rfl; have cb2 := bx.2 2 _ rfl; have cb3 := bx.2 3 _ rfl; have cb4 := bx.2 4 _ rfl; go_simp; try with_reducible rfl)
        simp only [Act.put, List.getElem_toArray, List.getElem_cons_zero, List.setIfInBounds_toArray, List.set_cons_zero, List.set_cons_succ]
        refine wpAnyH_take (i := 1) (v := ?_) rfl (by kernel_rfl) (by kernel_rfl) (by kernel_rfl) (fun _ _ _ h => h) (Or.inl ⟨by rfl, ?_⟩) (by assumption) ?_
        rotate_left
        · (intro wa hSw; obtain ⟨bx, sn, hb⟩ := OS.out _ hSw; have cb0 := bx.2 0 _ rfl; have cb1 := bx.2 1 _ rfl; have cb2 := bx.2 2 _ rfl; have cb3 := bx.2 3 _ rfl; have cb4 := bx.2 4 _ rfl; go_simp; try with_reducible rfl)
        simp only [Act.put, List.getElem_toArray, List.getElem_cons_zero, List.getElem_cons_succ, List.setIfInBounds_toArray, List.set_cons_zero, List.set_cons_succ]
        refine wpAnyH_ready (rs := [2]) (by kernel_rfl) (by simp) ?_
        refine AllReadyH.cons (o := _) rfl (fun K hK => ?_) AllReadyH.nil
        go_simp
        obtain ⟨bx, sn, hb⟩ := OS.out _ hHeld
        refine (C.out _).mono ?_
        rintro e w101 ⟨rfl, b101⟩
        clear bx sn hb
        (try go_wp2_with fail)
        refine hK.out _ _ ?_ (fun hHeld101 => ?_)
        · exact KS.out _ _ hHeld b101
        clear hK K
        refine wpAnyH_take (i := 3) (v := ?_) rfl (by kernel_rfl) (by kernel_rfl) (by kernel_rfl) (fun _ _ _ h => h) (Or.inl ⟨by rfl, ?_⟩) (by assumption) ?_
        rotate_left
        · (intro wa hSw; obtain ⟨bx, sn, hb⟩ := OS.out _ hSw; have cb0 := bx.2 0 _ rfl; have cb1 := bx.2 1 _ rfl; have cb2 := bx.2 2 _ rfl; have cb3 := bx.2 3 _ rfl; have cb4 := bx.2 4 _ rfl; go_simp; try with_reducible rfl)
        simp only [Act.put, List.getElem_toArray, List.getElem_cons_zero, List.getElem_cons_succ, List.setIfInBounds_toArray, List.set_cons_zero, List.set_cons_succ]
        refine wpAnyH_take (i := 4) (v := ?_) rfl (by kernel_rfl) (by kernel_rfl) (by kernel_rfl) (fun _ _ _ h => h) (Or.inl ⟨by rfl, ?_⟩) (by assumption) ?_
        rotate_left
        · (intro wa hSw; obtain ⟨bx, sn, hb⟩ := OS.out _ hSw; have cb0 := bx.2 0 _ rfl; have cb1 := bx.2 1 _ rfl; have cb2 := bx.2 2 _ rfl; have cb3 := bx.2 3 _ rfl; have cb4 := bx.2 4 _ rfl; go_simp; try with_reducible rfl)
        simp only [Act.put, List.getElem_toArray, List.getElem_cons_zero, List.getElem_cons_succ, List.setIfInBounds_toArray, List.set_cons_zero, List.set_cons_succ]
        refine wpAnyH_take (i := 5) (v := undef) rfl (by kernel_rfl) (by kernel_rfl) (by kernel_rfl) (fun _ _ _ h => h) (Or.inr ⟨by rfl, rfl⟩) (by assumption) ?_
        simp only [Act.put, List.getElem_toArray, List.getElem_cons_zero, List.getElem_cons_succ, List.setIfInBounds_toArray, List.set_cons_zero, List.set_cons_succ]
        refine wpAnyH_take (i := 6) (v := undef) rfl (by kernel_rfl) (by kernel_rfl) (by kernel_rfl) (fun _ _ _ h => h) (Or.inr ⟨by rfl, rfl⟩) (by assumption) ?_
        simp only [Act.put, List.getElem_toArray, List.getElem_cons_zero, List.getElem_cons_succ, List.setIfInBounds_toArray, List.set_cons_zero, List.set_cons_succ]
        refine wpAnyH_take (i := 7) (v := undef) rfl (by kernel_rfl) (by kernel_rfl) (by kernel_rfl) (fun _ _ _ h => h) (Or.inr ⟨by rfl, rfl⟩) (by assumption) ?_
        simp only [Act.put, List.getElem_toArray, List.getElem_cons_zero, List.getElem_cons_succ, List.setIfInBounds_toArray, List.set_cons_zero, List.set_cons_succ]
        refine wpAnyH_take (i := 8) (v := undef) rfl (by kernel_rfl) (by kernel_rfl) (by kernel_rfl) (fun _ _ _ h => h) (Or.inr ⟨by rfl, rfl⟩) (by assumption) ?_
        simp only [Act.put, List.getElem_toArray, List.getElem_cons_zero, List.getElem_cons_succ, List.setIfInBounds_toArray, List.set_cons_zero, List.set_cons_succ]
        refine wpAnyH_take (i := 9) (v := undef) rfl (by kernel_rfl) (by kernel_rfl) (by kernel_rfl) (fun _ _ _ h => h) (Or.inr ⟨by rfl, rfl⟩) (by assumption) ?_
        simp only [Act.put, List.getElem_toArray, List.getElem_cons_zero, List.getElem_cons_succ, List.setIfInBounds_toArray, List.set_cons_zero, List.set_cons_succ]
        refine wpAnyH_take (i := 10) (v := undef) rfl (by kernel_rfl) (by kernel_rfl) (by kernel_rfl) (fun _ _ _ h => h) (Or.inr ⟨by rfl, rfl⟩) (by assumption) ?_
        simp only [Act.put, List.getElem_toArray, List.getElem_cons_zero, List.getElem_cons_succ, List.setIfInBounds_toArray, List.set_cons_zero, List.set_cons_succ]
        refine wpAnyH_take (i := 11) (v := undef) rfl (by kernel_rfl) (by kernel_rfl) (by kernel_rfl) (fun _ _ _ h => h) (Or.inr ⟨by rfl, rfl⟩) (by assumption) ?_
        simp only [Act.put, List.getElem_toArray, List.getElem_cons_zero, List.getElem_cons_succ, List.setIfInBounds_toArray, List.set_cons_zero, List.set_cons_succ]
        refine wpAnyH_take (i := 12) (v := ?_) rfl (by kernel_rfl) (by kernel_rfl) (by kernel_rfl) (fun _ _ _ h => h) (Or.inl ⟨by rfl, ?_⟩) (by assumption) ?_
        rotate_left
        · (intro wa hSw; obtain ⟨bx, sn, hb⟩ := OS.out _ hSw; have cb0 := bx.2 0 _ rfl; have cb1 := bx.2 1 _ rfl; have cb2 := bx.2 2 _ rfl; have cb3 := bx.2 3 _ rfl; have cb4 := bx.2 4 _ rfl; go_simp; try with_reducible rfl)
        simp only [Act.put, List.getElem_toArray, List.getElem_cons_zero, List.getElem_cons_succ, List.setIfInBounds_toArray, List.set_cons_zero, List.set_cons_succ]
        refine wpAnyH_done (by kernel_rfl) ?_ _
        obtain ⟨bx, sn, hb⟩ := OS.out _ hHeld101
        clear KS OS hHeld hHeld101
        (try go_wp2)
        go_ret
        exact ⟨rfl, hb⟩
      | true =>
        have hgp := HR2.out.1 rfl
        obtain ⟨⟨n1, n2⟩, ⟨q1, q2⟩, ⟨q3, q4⟩, _⟩ := hgp
        simp only at q1 q2 q3 q4
        obtain ⟨p, rfl⟩ : ∃ p : Nat, x0 = p := ⟨x0.toNat, by omega⟩
        obtain ⟨q, rfl⟩ : ∃ q : Nat, x1 = q := ⟨x1.toNat, by omega⟩
        have p8 : p < 8 := by omega
        have q8 : q < 8 := by omega
        have p8' : (p : Int) < 8 := by omega
        have q8' : (q : Int) < 8 := by omega
        have hpk : pk = ((p * 8 + q : Nat) : Int) := by rw [HPK.out]; simp
        have HSv := Lib.hid (HSm.out _ (by omega) hpk)
        have HEv := Lib.hid (HE.out _ hpk)
        have HPv := Lib.hid (HP.out (HR2.out.1 rfl))
        have HGP := Lib.hid (HR2.out.1 rfl)
        clear HSm HE HP HPK hpk HR2 n1 n2 q1 q2 q3 q4
        obtain ⟨s, HSV⟩ : ∃ s, Hid (M (p * 8 + q) = s) := ⟨_, rfl⟩
        cases s with
        | true =>
          have hf : R = false := HN.out fun h => (HPv.out.1 h.2) (HSv.out.1 HSV.out)
          subst hf
          clear HN HS HEv HPv HSv HGP

          obtain ⟨S, HSd⟩ : ∃ S : World → Prop, S = fun w' => BoxN w' wr.heap.size [.int .i64 (p : Int), .int .i64 (q : Int), .int .i64 x2, .int .i64 x3, .int .i64 x4] ∧ SeenN 64 w' w.heap.size M ∧ Below w.heap.size w w' := ⟨_, rfl⟩
          have KS : Hid (∀ wa wb, S wa → Below wa.heap.size wa wb → S wb) := by subst HSd; exact fun wa wb ⟨bx, sn, hb⟩ b => ⟨bx.below b, sn.below b, hb.trans (b.mono hb.size)⟩
          have OS : Hid (∀ wa, S wa → BoxN wa wr.heap.size [.int .i64 (p : Int), .int .i64 (q : Int), .int .i64 x2, .int .i64 x3, .int .i64 x4] ∧ SeenN 64 wa w.heap.size M ∧ Below w.heap.size w wa) := by subst HSd; exact fun wa h => h
          have KS0 : Hid (S (wr.alloc (.cells #[.int .i64 (p : Int), .int .i64 (q : Int), .int .i64 x2, .int .i64 x3, .int .i64 x4] 66)).drew) := by subst HSd; exact ⟨BX.out.below (Below.refl _ _).drew, SN.out.below (Below.refl _ _).drew, HB2.out.drew⟩
          clear HSd
          go_wp2_with fail
          refine wp_region_held_drew (S := S) (by kernel_rfl) ?_ (fun hHeld => ?_)
          · exact KS0.out
          clear KS0 hb
          refine wpAnyH_take (i := 0) (v := ?_) rfl (by kernel_rfl) (by kernel_rfl) (by kernel_rfl) (fun _ _ _ h => h) (Or.inl ⟨by rfl, ?_⟩) (by assumption) ?_
          rotate_left
          · (intro wa hSw; obtain ⟨bx, sn, hb⟩ := OS.out _ hSw; have cb0 := bx.2 0 _ rfl; have cb1 := bx.2 1 _ rfl; have cb2 := bx.2 2 _ rfl; have cb3 := bx.2 3 _ rfl; have cb4 := bx.2 4 _ rfl; have cs := (sn.2 (p * 8 + q) (by omega)).1; rw [HSV.out] at cs; go_simp; try with_reducible rfl)
          simp only [Act.put, List.getElem_toArray, List.getElem_cons_zero, List.setIfInBounds_toArray, List.set_cons_zero, List.set_cons_succ]
          refine wpAnyH_take (i := 1) (v := ?_) rfl (by kernel_rfl) (by kernel_rfl) (by kernel_rfl) (fun _ _ _ h => h) (Or.inl ⟨by rfl, ?_⟩) (by assumption) ?_
          rotate_left
          · (intro wa hSw; obtain ⟨bx, sn, hb⟩ := OS.out _ hSw; have cb0 := bx.2 0 _ rfl; have cb1 := bx.2 1 _ rfl; have cb2 := bx.2 2 _ rfl; have cb3 := bx.2 3 _ rfl; have cb4 := bx.2 4 _ rfl; have cs := (sn.2 (p * 8 + q) (by omega)).1; rw [HSV.out] at cs; go_simp; try with_reducible rfl)
          simp only [Act.put, List.getElem_toArray, List.getElem_cons_zero, List.getElem_cons_succ, List.setIfInBounds_toArray, List.set_cons_zero, List.set_cons_succ]
          refine wpAnyH_ready (rs := [2]) (by kernel_rfl) (by simp) ?_
          refine AllReadyH.cons (o := _) rfl (fun K hK => ?_) AllReadyH.nil
          go_simp
          obtain ⟨bx, sn, hb⟩ := OS.out _ hHeld
          refine (C.out _).mono ?_
          rintro e w101 ⟨rfl, b101⟩
          clear bx sn hb
          (try go_wp2_with fail)
          refine hK.out _ _ ?_ (fun hHeld101 => ?_)
          · exact KS.out _ _ hHeld b101
          clear hK K
          refine wpAnyH_take (i := 3) (v := ?_) rfl (by kernel_rfl) (by kernel_rfl) (by kernel_rfl) (fun _ _ _ h => h) (Or.inl ⟨by rfl, ?_⟩) (by assumption) ?_
          rotate_left
          · (intro wa hSw; obtain ⟨bx, sn, hb⟩ := OS.out _ hSw; have cb0 := bx.2 0 _ rfl; have cb1 := bx.2 1 _ rfl; have cb2 := bx.2 2 _ rfl; have cb3 := bx.2 3 _ rfl; have cb4 := bx.2 4 _ rfl; have cs := (sn.2 (p * 8 + q) (by omega)).1; rw [HSV.out] at cs; go_simp; try with_reducible rfl)
          simp only [Act.put, List.getElem_toArray, List.getElem_cons_zero, List.getElem_cons_succ, List.setIfInBounds_toArray, List.set_cons_zero, List.set_cons_succ]
          refine wpAnyH_take (i := 4) (v := ?_) rfl (by kernel_rfl) (by kernel_rfl) (by kernel_rfl) (fun _ _ _ h => h) (Or.inl ⟨by rfl, ?_⟩) (by assumption) ?_
          rotate_left
          · (intro wa hSw; obtain ⟨bx, sn, hb⟩ := OS.out _ hSw; have cb0 := bx.2 0 _ rfl; have cb1 := bx.2 1 _ rfl; have cb2 := bx.2 2 _ rfl; have cb3 := bx.2 3 _ rfl; have cb4 := bx.2 4 _ rfl; have cs := (sn.2 (p * 8 + q) (by omega)).1; rw [HSV.out] at cs; go_simp; try with_reducible rfl)
          simp only [Act.put, List.getElem_toArray, List.getElem_cons_zero, List.getElem_cons_succ, List.setIfInBounds_toArray, List.set_cons_zero, List.set_cons_succ]
          refine wpAnyH_take (i := 5) (v := ?_) rfl (by kernel_rfl) (by kernel_rfl) (by kernel_rfl) (fun _ _ _ h => h) (Or.inl ⟨by rfl, ?_⟩) (by assumption) ?_
          rotate_left
          · (intro wa hSw; obtain ⟨bx, sn, hb⟩ := OS.out _ hSw; have cb0 := bx.2 0 _ rfl; have cb1 := bx.2 1 _ rfl; have cb2 := bx.2 2 _ rfl; have cb3 := bx.2 3 _ rfl; have cb4 := bx.2 4 _ rfl; have cs := (sn.2 (p * 8 + q) (by omega)).1; rw [HSV.out] at cs; go_simp; try with_reducible rfl)
          simp only [Act.put, List.getElem_toArray, List.getElem_cons_zero, List.getElem_cons_succ, List.setIfInBounds_toArray, List.set_cons_zero, List.set_cons_succ]
          refine wpAnyH_take (i := 6) (v := ?_) rfl (by kernel_rfl) (by kernel_rfl) (by kernel_rfl) (fun _ _ _ h => h) (Or.inl ⟨by rfl, ?_⟩) (by assumption) ?_
          rotate_left
          · (intro wa hSw; obtain ⟨bx, sn, hb⟩ := OS.out _ hSw; have cb0 := bx.2 0 _ rfl; have cb1 := bx.2 1 _ rfl; have cb2 := bx.2 2 _ rfl; have cb3 := bx.2 3 _ rfl; have cb4 := bx.2 4 _ rfl; have cs := (sn.2 (p * 8 + q) (by omega)).1; rw [HSV.out] at cs; go_simp; try with_reducible rfl)
          simp only [Act.put, List.getElem_toArray, List.getElem_cons_zero, List.getElem_cons_succ, List.setIfInBounds_toArray, List.set_cons_zero, List.set_cons_succ]
          refine wpAnyH_take (i := 7) (v := ?_) rfl (by kernel_rfl) (by kernel_rfl) (by kernel_rfl) (fun _ _ _ h => h) (Or.inl ⟨by rfl, ?_⟩) (by assumption) ?_
          rotate_left
          · (intro wa hSw; obtain ⟨bx, sn, hb⟩ := OS.out _ hSw; have cb0 := bx.2 0 _ rfl; have cb1 := bx.2 1 _ rfl; have cb2 := bx.2 2 _ rfl; have cb3 := bx.2 3 _ rfl; have cb4 := bx.2 4 _ rfl; have cs := (sn.2 (p * 8 + q) (by omega)).1; rw [HSV.out] at cs; go_simp; try with_reducible rfl)
          simp only [Act.put, List.getElem_toArray, List.getElem_cons_zero, List.getElem_cons_succ, List.setIfInBounds_toArray, List.set_cons_zero, List.set_cons_succ]
          refine wpAnyH_take (i := 8) (v := ?_) rfl (by kernel_rfl) (by kernel_rfl) (by kernel_rfl) (fun _ _ _ h => h) (Or.inl ⟨by rfl, ?_⟩) (by assumption) ?_
          rotate_left
          · (intro wa hSw; obtain ⟨bx, sn, hb⟩ := OS.out _ hSw; have cb0 := bx.2 0 _ rfl; have cb1 := bx.2 1 _ rfl; have cb2 := bx.2 2 _ rfl; have cb3 := bx.2 3 _ rfl; have cb4 := bx.2 4 _ rfl; have cs := (sn.2 (p * 8 + q) (by omega)).1; rw [HSV.out] at cs; go_simp; try with_reducible rfl)
          simp only [Act.put, List.getElem_toArray, List.getElem_cons_zero, List.getElem_cons_succ, List.setIfInBounds_toArray, List.set_cons_zero, List.set_cons_succ]
          refine wpAnyH_take (i := 9) (v := ?_) rfl (by kernel_rfl) (by kernel_rfl) (by kernel_rfl) (fun _ _ _ h => h) (Or.inl ⟨by rfl, ?_⟩) (by assumption) ?_
          rotate_left
          · (intro wa hSw; obtain ⟨bx, sn, hb⟩ := OS.out _ hSw; have cb0 := bx.2 0 _ rfl; have cb1 := bx.2 1 _ rfl; have cb2 := bx.2 2 _ rfl; have cb3 := bx.2 3 _ rfl; have cb4 := bx.2 4 _ rfl; have cs := (sn.2 (p * 8 + q) (by omega)).1; rw [HSV.out] at cs; go_simp; try with_reducible rfl)
          simp only [Act.put, List.getElem_toArray, List.getElem_cons_zero, List.getElem_cons_succ, List.setIfInBounds_toArray, List.set_cons_zero, List.set_cons_succ]
          refine wpAnyH_take (i := 10) (v := ?_) rfl (by kernel_rfl) (by kernel_rfl) (by kernel_rfl) (fun _ _ _ h => h) (Or.inl ⟨by rfl, ?_⟩) (by assumption) ?_
          rotate_left
          · (intro wa hSw; obtain ⟨bx, sn, hb⟩ := OS.out _ hSw; have cb0 := bx.2 0 _ rfl; have cb1 := bx.2 1 _ rfl; have cb2 := bx.2 2 _ rfl; have cb3 := bx.2 3 _ rfl; have cb4 := bx.2 4 _ rfl; have cs := (sn.2 (p * 8 + q) (by omega)).1; rw [HSV.out] at cs; go_simp; try with_reducible rfl)
          simp only [Act.put, List.getElem_toArray, List.getElem_cons_zero, List.getElem_cons_succ, List.setIfInBounds_toArray, List.set_cons_zero, List.set_cons_succ]
          refine wpAnyH_take (i := 11) (v := ?_) rfl (by kernel_rfl) (by kernel_rfl) (by kernel_rfl) (fun _ _ _ h => h) (Or.inl ⟨by rfl, ?_⟩) (by assumption) ?_
          rotate_left
          · (intro wa hSw; obtain ⟨bx, sn, hb⟩ := OS.out _ hSw; have cb0 := bx.2 0 _ rfl; have cb1 := bx.2 1 _ rfl; have cb2 := bx.2 2 _ rfl; have cb3 := bx.2 3 _ rfl; have cb4 := bx.2 4 _ rfl; have cs := (sn.2 (p * 8 + q) (by omega)).1; rw [HSV.out] at cs; go_simp; try with_reducible rfl)
          simp only [Act.put, List.getElem_toArray, List.getElem_cons_zero, List.getElem_cons_succ, List.setIfInBounds_toArray, List.set_cons_zero, List.set_cons_succ]
          refine wpAnyH_take (i := 12) (v := ?_) rfl (by kernel_rfl) (by kernel_rfl) (by kernel_rfl) (fun _ _ _ h => h) (Or.inl ⟨by rfl, ?_⟩) (by assumption) ?_
          rotate_left
          · (intro wa hSw; obtain ⟨bx, sn, hb⟩ := OS.out _ hSw; have cb0 := bx.2 0 _ rfl; have cb1 := bx.2 1 _ rfl; have cb2 := bx.2 2 _ rfl; have cb3 := bx.2 3 _ rfl; have cb4 := bx.2 4 _ rfl; have cs := (sn.2 (p * 8 + q) (by omega)).1; rw [HSV.out] at cs; go_simp; try with_reducible rfl)
          simp only [Act.put, List.getElem_toArray, List.getElem_cons_zero, List.getElem_cons_succ, List.setIfInBounds_toArray, List.set_cons_zero, List.set_cons_succ]
          refine wpAnyH_done (by kernel_rfl) ?_ _
          obtain ⟨bx, sn, hb⟩ := OS.out _ hHeld101
          clear KS OS hHeld hHeld101
          (try go_wp2)
          go_ret
          exact ⟨rfl, hb⟩
        | false =>
          have HX := Lib.hid (HS.out ⟨HGP.out, HPv.out.2 fun h => by have := HSv.out.2 h; rw [HSV.out] at this; cases this⟩)
          clear HN HS HPv HSv HGP

          obtain ⟨S, HSd⟩ : ∃ S : World → Prop, S = fun w' => BoxN w' wr.heap.size [.int .i64 (p : Int), .int .i64 (q : Int), .int .i64 x2, .int .i64 x3, .int .i64 x4] ∧ SeenN 64 w' w.heap.size M ∧ Below w.heap.size w w' := ⟨_, rfl⟩
          have KS : Hid (∀ wa wb, S wa → Below wa.heap.size wa wb → S wb) := by subst HSd; exact fun wa wb ⟨bx, sn, hb⟩ b => ⟨bx.below b, sn.below b, hb.trans (b.mono hb.size)⟩
          have OS : Hid (∀ wa, S wa → BoxN wa wr.heap.size [.int .i64 (p : Int), .int .i64 (q : Int), .int .i64 x2, .int .i64 x3, .int .i64 x4] ∧ SeenN 64 wa w.heap.size M ∧ Below w.heap.size w wa) := by subst HSd; exact fun wa h => h
          have KS0 : Hid (S (wr.alloc (.cells #[.int .i64 (p : Int), .int .i64 (q : Int), .int .i64 x2, .int .i64 x3, .int .i64 x4] 66)).drew) := by subst HSd; exact ⟨BX.out.below (Below.refl _ _).drew, SN.out.below (Below.refl _ _).drew, HB2.out.drew⟩
          clear HSd
          go_wp2_with fail
          refine wp_region_held_drew (S := S) (by kernel_rfl) ?_ (fun hHeld => ?_)
          · exact KS0.out
          clear KS0 hb
          refine wpAnyH_take (i := 0) (v := ?_) rfl (by kernel_rfl) (by kernel_rfl) (by kernel_rfl) (fun _ _ _ h => h) (Or.inl ⟨by rfl, ?_⟩) (by assumption) ?_
          rotate_left
          · (intro wa hSw; obtain ⟨bx, sn, hb⟩ := OS.out _ hSw; have cb0 := bx.2 0 _ rfl; have cb1 := bx.2 1 _ rfl; have cb2 := bx.2 2 _ rfl; have cb3 := bx.2 3 _ rfl; have cb4 := bx.2 4 _ rfl; have cs := (sn.2 (p * 8 + q) (by omega)).1; rw [HSV.out] at cs; go_simp; try with_reducible rfl)
          simp only [Act.put, List.getElem_toArray, List.getElem_cons_zero, List.setIfInBounds_toArray, List.set_cons_zero, List.set_cons_succ]
          refine wpAnyH_take (i := 1) (v := ?_) rfl (by kernel_rfl) (by kernel_rfl) (by kernel_rfl) (fun _ _ _ h => h) (Or.inl ⟨by rfl, ?_⟩) (by assumption) ?_
          rotate_left
          · (intro wa hSw; obtain ⟨bx, sn, hb⟩ := OS.out _ hSw; have cb0 := bx.2 0 _ rfl; have cb1 := bx.2 1 _ rfl; have cb2 := bx.2 2 _ rfl; have cb3 := bx.2 3 _ rfl; have cb4 := bx.2 4 _ rfl; have cs := (sn.2 (p * 8 + q) (by omega)).1; rw [HSV.out] at cs; go_simp; try with_reducible rfl)
          simp only [Act.put, List.getElem_toArray, List.getElem_cons_zero, List.getElem_cons_succ, List.setIfInBounds_toArray, List.set_cons_zero, List.set_cons_succ]
          refine wpAnyH_ready (rs := [2]) (by kernel_rfl) (by simp) ?_
          refine AllReadyH.cons (o := _) rfl (fun K hK => ?_) AllReadyH.nil
          go_simp
          obtain ⟨bx, sn, hb⟩ := OS.out _ hHeld
          refine (C.out _).mono ?_
          rintro e w101 ⟨rfl, b101⟩
          clear bx sn hb
          (try go_wp2_with fail)
          refine hK.out _ _ ?_ (fun hHeld101 => ?_)
          · exact KS.out _ _ hHeld b101
          clear hK K
          refine wpAnyH_take (i := 3) (v := ?_) rfl (by kernel_rfl) (by kernel_rfl) (by kernel_rfl) (fun _ _ _ h => h) (Or.inl ⟨by rfl, ?_⟩) (by assumption) ?_
          rotate_left
          · (intro wa hSw; obtain ⟨bx, sn, hb⟩ := OS.out _ hSw; have cb0 := bx.2 0 _ rfl; have cb1 := bx.2 1 _ rfl; have cb2 := bx.2 2 _ rfl; have cb3 := bx.2 3 _ rfl; have cb4 := bx.2 4 _ rfl; have cs := (sn.2 (p * 8 + q) (by omega)).1; rw [HSV.out] at cs; go_simp; try with_reducible rfl)
          simp only [Act.put, List.getElem_toArray, List.getElem_cons_zero, List.getElem_cons_succ, List.setIfInBounds_toArray, List.set_cons_zero, List.set_cons_succ]
          refine wpAnyH_take (i := 4) (v := ?_) rfl (by kernel_rfl) (by kernel_rfl) (by kernel_rfl) (fun _ _ _ h => h) (Or.inl ⟨by rfl, ?_⟩) (by assumption) ?_
          rotate_left
          · (intro wa hSw; obtain ⟨bx, sn, hb⟩ := OS.out _ hSw; have cb0 := bx.2 0 _ rfl; have cb1 := bx.2 1 _ rfl; have cb2 := bx.2 2 _ rfl; have cb3 := bx.2 3 _ rfl; have cb4 := bx.2 4 _ rfl; have cs := (sn.2 (p * 8 + q) (by omega)).1; rw [HSV.out] at cs; go_simp; try with_reducible rfl)
          simp only [Act.put, List.getElem_toArray, List.getElem_cons_zero, List.getElem_cons_succ, List.setIfInBounds_toArray, List.set_cons_zero, List.set_cons_succ]
          refine wpAnyH_take (i := 5) (v := ?_) rfl (by kernel_rfl) (by kernel_rfl) (by kernel_rfl) (fun _ _ _ h => h) (Or.inl ⟨by rfl, ?_⟩) (by assumption) ?_
          rotate_left
          · (intro wa hSw; obtain ⟨bx, sn, hb⟩ := OS.out _ hSw; have cb0 := bx.2 0 _ rfl; have cb1 := bx.2 1 _ rfl; have cb2 := bx.2 2 _ rfl; have cb3 := bx.2 3 _ rfl; have cb4 := bx.2 4 _ rfl; have cs := (sn.2 (p * 8 + q) (by omega)).1; rw [HSV.out] at cs; go_simp; try with_reducible rfl)
          simp only [Act.put, List.getElem_toArray, List.getElem_cons_zero, List.getElem_cons_succ, List.setIfInBounds_toArray, List.set_cons_zero, List.set_cons_succ]
          refine wpAnyH_take (i := 6) (v := ?_) rfl (by kernel_rfl) (by kernel_rfl) (by kernel_rfl) (fun _ _ _ h => h) (Or.inl ⟨by rfl, ?_⟩) (by assumption) ?_
          rotate_left
          · (intro wa hSw; obtain ⟨bx, sn, hb⟩ := OS.out _ hSw; have cb0 := bx.2 0 _ rfl; have cb1 := bx.2 1 _ rfl; have cb2 := bx.2 2 _ rfl; have cb3 := bx.2 3 _ rfl; have cb4 := bx.2 4 _ rfl; have cs := (sn.2 (p * 8 + q) (by omega)).1; rw [HSV.out] at cs; go_simp; try with_reducible rfl)
          simp only [Act.put, List.getElem_toArray, List.getElem_cons_zero, List.getElem_cons_succ, List.setIfInBounds_toArray, List.set_cons_zero, List.set_cons_succ]
          refine wpAnyH_take (i := 7) (v := ?_) rfl (by kernel_rfl) (by kernel_rfl) (by kernel_rfl) (fun _ _ _ h => h) (Or.inl ⟨by rfl, ?_⟩) (by assumption) ?_
          rotate_left
          · (intro wa hSw; obtain ⟨bx, sn, hb⟩ := OS.out _ hSw; have cb0 := bx.2 0 _ rfl; have cb1 := bx.2 1 _ rfl; have cb2 := bx.2 2 _ rfl; have cb3 := bx.2 3 _ rfl; have cb4 := bx.2 4 _ rfl; have cs := (sn.2 (p * 8 + q) (by omega)).1; rw [HSV.out] at cs; go_simp; try with_reducible rfl)
          simp only [Act.put, List.getElem_toArray, List.getElem_cons_zero, List.getElem_cons_succ, List.setIfInBounds_toArray, List.set_cons_zero, List.set_cons_succ]
          refine wpAnyH_take (i := 8) (v := ?_) rfl (by kernel_rfl) (by kernel_rfl) (by kernel_rfl) (fun _ _ _ h => h) (Or.inl ⟨by rfl, ?_⟩) (by assumption) ?_
          rotate_left
          · (intro wa hSw; obtain ⟨bx, sn, hb⟩ := OS.out _ hSw; have cb0 := bx.2 0 _ rfl; have cb1 := bx.2 1 _ rfl; have cb2 := bx.2 2 _ rfl; have cb3 := bx.2 3 _ rfl; have cb4 := bx.2 4 _ rfl; have cs := (sn.2 (p * 8 + q) (by omega)).1; rw [HSV.out] at cs; go_simp; try with_reducible rfl)
          simp only [Act.put, List.getElem_toArray, List.getElem_cons_zero, List.getElem_cons_succ, List.setIfInBounds_toArray, List.set_cons_zero, List.set_cons_succ]
          refine wpAnyH_take (i := 9) (v := ?_) rfl (by kernel_rfl) (by kernel_rfl) (by kernel_rfl) (fun _ _ _ h => h) (Or.inl ⟨by rfl, ?_⟩) (by assumption) ?_
          rotate_left
          · (intro wa hSw; obtain ⟨bx, sn, hb⟩ := OS.out _ hSw; have cb0 := bx.2 0 _ rfl; have cb1 := bx.2 1 _ rfl; have cb2 := bx.2 2 _ rfl; have cb3 := bx.2 3 _ rfl; have cb4 := bx.2 4 _ rfl; have cs := (sn.2 (p * 8 + q) (by omega)).1; rw [HSV.out] at cs; go_simp; try with_reducible rfl)
          simp only [Act.put, List.getElem_toArray, List.getElem_cons_zero, List.getElem_cons_succ, List.setIfInBounds_toArray, List.set_cons_zero, List.set_cons_succ]
          refine wpAnyH_take (i := 10) (v := ?_) rfl (by kernel_rfl) (by kernel_rfl) (by kernel_rfl) (fun _ _ _ h => h) (Or.inl ⟨by rfl, ?_⟩) (by assumption) ?_
          rotate_left
          · (intro wa hSw; obtain ⟨bx, sn, hb⟩ := OS.out _ hSw; have cb0 := bx.2 0 _ rfl; have cb1 := bx.2 1 _ rfl; have cb2 := bx.2 2 _ rfl; have cb3 := bx.2 3 _ rfl; have cb4 := bx.2 4 _ rfl; have cs := (sn.2 (p * 8 + q) (by omega)).1; rw [HSV.out] at cs; go_simp; try with_reducible rfl)
          simp only [Act.put, List.getElem_toArray, List.getElem_cons_zero, List.getElem_cons_succ, List.setIfInBounds_toArray, List.set_cons_zero, List.set_cons_succ]
          refine wpAnyH_take (i := 11) (v := ?_) rfl (by kernel_rfl) (by kernel_rfl) (by kernel_rfl) (fun _ _ _ h => h) (Or.inl ⟨by rfl, ?_⟩) (by assumption) ?_
          rotate_left
          · (intro wa hSw; obtain ⟨bx, sn, hb⟩ := OS.out _ hSw; have cb0 := bx.2 0 _ rfl; have cb1 := bx.2 1 _ rfl; have cb2 := bx.2 2 _ rfl; have cb3 := bx.2 3 _ rfl; have cb4 := bx.2 4 _ rfl; have cs := (sn.2 (p * 8 + q) (by omega)).1; rw [HSV.out] at cs; go_simp; try with_reducible rfl)
          simp only [Act.put, List.getElem_toArray, List.getElem_cons_zero, List.getElem_cons_succ, List.setIfInBounds_toArray, List.set_cons_zero, List.set_cons_succ]
          refine wpAnyH_take (i := 12) (v := ?_) rfl (by kernel_rfl) (by kernel_rfl) (by kernel_rfl) (fun _ _ _ h => h) (Or.inl ⟨by rfl, ?_⟩) (by assumption) ?_
          rotate_left
          · (intro wa hSw; obtain ⟨bx, sn, hb⟩ := OS.out _ hSw; have cb0 := bx.2 0 _ rfl; have cb1 := bx.2 1 _ rfl; have cb2 := bx.2 2 _ rfl; have cb3 := bx.2 3 _ rfl; have cb4 := bx.2 4 _ rfl; have cs := (sn.2 (p * 8 + q) (by omega)).1; rw [HSV.out] at cs; go_simp; try with_reducible rfl)
          simp only [Act.put, List.getElem_toArray, List.getElem_cons_zero, List.getElem_cons_succ, List.setIfInBounds_toArray, List.set_cons_zero, List.set_cons_succ]
          refine wpAnyH_done (by kernel_rfl) ?_ _
          obtain ⟨bx, sn, hb⟩ := OS.out _ hHeld101
          clear KS OS hHeld hHeld101
          have HX2 := Lib.hid bx
          have cb0 := bx.2 0 _ rfl
          have cb1 := bx.2 1 _ rfl
          have SN2 := Lib.hid (sn.set (p * 8 + q) (by omega))
          have hl := sn.1
          obtain ⟨cs, fz⟩ := sn.2 (p * 8 + q) (by omega)
          clear bx sn
          go_wp2_with fail
          go_region
          all_goals (try go_wp2)
          all_goals go_roundw
          case rel => exact ⟨k + 1, _, by omega, by go_num, HX.out, SN2.out, HEv.out, (hb.setCell (p := ⟨w.heap.size, p * 8 + q, none⟩) (Nat.le_refl _) _).drew⟩
          case measure => simp [RowKit.intOf]; omega
    · obtain rfl : k = m := by omega
      obtain rfl := HYES.out hok.out
      clear HNO HYES hok hS hSk
      go_wp2
      go_ret
      exact ⟨rfl, hb⟩
end Go.Proofs.Ytgemdjcadlejfaa
set_option linter.unusedVariables false
namespace Go.Proofs.Ytgemdjcadlejfaa
open Go.RowKit

set_option maxRecDepth 100000 in
set_option maxHeartbeats 4000000 in
theorem isRound_impl (N : Int) (v : Value) (r : PairL) (R : Bool) (hR : R = true ↔ onceP N (teamsR r)) (hN : N ≤ 8) (w : World) (h : RdA tPairS w [v] r) :
    Calls Try.prog 65 #[.int .i64 N, v] w fun e w' => e = .returned (.bool R) ∧ Below w.heap.size w w' := by
  obtain ⟨a, c, rfl, hn⟩ := pairs_form h
  have HR := Lib.hid h
  clear h
  obtain ⟨n, hd⟩ : ∃ n, List.length (α := tPair.D) r = n := ⟨_, rfl⟩
  have HD := Lib.hid hd
  rw [hd] at hn ⊢
  clear hd
  have HNo := Lib.hid (boolF hR)
  have HY := Lib.hid (boolT hR)
  clear hR
  have s1 := SeenN.made 8 w #[.bool false, .bool false, .bool false, .bool false, .bool false, .bool false, .bool false, .bool false] 67 (fun j hj => by match j, hj with | 0, _ => rfl | 1, _ => rfl | 2, _ => rfl | 3, _ => rfl | 4, _ => rfl | 5, _ => rfl | 6, _ => rfl | 7, _ => rfl)
  have HS0 := Lib.hid s1
  have HB0 : Hid (Below w.heap.size w (w.alloc (.cells #[.bool false, .bool false, .bool false, .bool false, .bool false, .bool false, .bool false, .bool false] 67))) := (Below.refl _ _).alloc (Nat.le_refl _) _
  clear s1
  go_enter Try.func65, Try.ntmps65
  go_wp2
  go_loopw [10] (fun iv wr => ∃ (k : Nat) (M : Nat → Bool), k ≤ n ∧ iv = .int .i64 k ∧ Hid (onceP N (teamsR (r.take k))) ∧ Hid (SeenN 8 wr w.heap.size M) ∧ Hid (∀ j : Nat, j < 8 → (M j = true ↔ (j : Int) ∈ teamsR (r.take k))) ∧ Hid (Below w.heap.size w wr)) (fun iv _ => n - (RowKit.intOf iv).toNat)
  case atStart => exact ⟨0, _, Nat.zero_le _, rfl, ⟨fun t ht => by simp [teamsR] at ht, by simp [teamsR]⟩, HS0, fun j _ => (by simp [teamsR]), HB0⟩
  case round =>
    clear HS0 HB0
    obtain ⟨k, M, hk9, rfl, HV, HS, HM, HB⟩ := hrel
    by_cases hlt : k < n
    · obtain ⟨p, hp⟩ : ∃ p : tPair.D, r[k]? = some p := ⟨_, List.getElem?_eq_getElem (by rw [HD.out]; exact hlt)⟩
      have HRr := HR.out.below HB.out
      obtain ⟨b, off, rfl, hcap, q0, q1⟩ := pair_cells HRr hp
      rw [HD.out] at hcap
      have hj1 : (k : Int) < (n : Int) := by omega
      have HTK : Hid (teamsR (r.take (k + 1)) = teamsR (r.take k) ++ [hm p, aw p]) := by show _ = _; rw [List.take_add_one, hp]; exact teamsR_app _ _
      have HTA : Hid (teamsR r = teamsR (r.take k) ++ hm p :: aw p :: teamsR (r.drop (k + 1))) := by
        show _ = _
        have e : teamsR r = teamsR (r.take k ++ r.drop k) := by rw [List.take_append_drop]
        rw [e, teamsR_app, drop_at hp]; rfl
      clear hp HRr
      generalize hm p = ph at *
      generalize aw p = pa at *
      obtain ⟨U, hU⟩ : ∃ U, wr.alloc (.cells #[.int .i64 ph, .int .i64 pa] 38) = U := ⟨_, rfl⟩
      have bU : Below wr.heap.size wr U := by rw [← hU]; exact (Below.refl _ _).alloc (Nat.le_refl _) _
      have HXU : Hid (BoxN U wr.heap.size [.int .i64 ph, .int .i64 pa]) := by rw [← hU]; exact BoxN.made (Below.refl _ _) rfl
      have HSU := Lib.hid (HS.out.below bU)
      have HBU := Lib.hid (HB.out.trans (bU.mono HB.out.size))
      have HP : Hid (w.heap.size ≠ wr.heap.size) := fun e => by have := HS.out.1; omega
      have x0 := HXU.out.2 0 _ rfl
      have x1 := HXU.out.2 1 _ rfl
      clear bU HS HB
      by_cases ho : 0 ≤ ph ∧ ph < N ∧ 0 ≤ pa ∧ pa < N ∧ ph ≠ pa
      case neg =>
        have HF : R = false := HNo.out (fun e => ho (by
          rw [HTA.out] at e
          have e1 := e.1 ph (List.mem_append_right _ (List.mem_cons_self ..))
          have e2 := e.1 pa (List.mem_append_right _ (List.mem_cons_of_mem _ (List.mem_cons_self ..)))
          refine ⟨e1.1, by omega, e2.1, by omega, fun e3 => ?_⟩
          have h9 := (List.nodup_append.1 e.2).2.1
          subst e3
          exact (List.nodup_cons.1 h9).1 (List.mem_cons_self ..)))
        subst HF
        have CA := Lib.hid (areOpp_impl N ph pa false U (by constructor; (intro h; cases h); (intro h; exact absurd h ho)))
        clear HNo HY HTA HTK HV HM
        go_wp2_with fail
        refine CA.out.mono ?_
        rintro e wx ⟨rfl, rfl⟩
        clear hU CA
        go_wp2
        go_ret
        exact ⟨rfl, HBU.out⟩
      have CA := Lib.hid (areOpp_impl N ph pa true U ⟨fun _ => ho, fun _ => rfl⟩)
      obtain ⟨o1, o2, o3, o4, o5⟩ := ho
      obtain ⟨p, rfl⟩ : ∃ p : Nat, ph = p := ⟨ph.toNat, by omega⟩
      obtain ⟨q, rfl⟩ : ∃ q : Nat, pa = q := ⟨pa.toNat, by omega⟩
      have p8 : p < 8 := by omega
      have q8 : q < 8 := by omega
      have p8' : (p : Int) < 8 := by omega
      have q8' : (q : Int) < 8 := by omega
      have hpq : p ≠ q := fun e => o5 (by rw [e])
      have m0 := (HSU.out.2 p p8).1
      have m1 := (HSU.out.2 q q8).1
      have HMp := Lib.hid (HM.out p p8)
      have HMq := Lib.hid (HM.out q q8)
      have f0 := (HSU.out.2 p p8).2
      have f1 := (HSU.out.2 q q8).2
      by_cases hp1 : M p = true
      · rw [hp1] at m0
        have HF : R = false := HNo.out (fun e => by rw [HTA.out] at e; exact not_once_dup (HMp.out.1 hp1) e)
        subst HF
        clear HNo HY HTA HTK HV HM HMp HMq hp1
        go_wp2_with fail
        refine CA.out.mono ?_
        rintro e wx ⟨rfl, rfl⟩
        clear hU CA
        go_wp2
        go_ret
        exact ⟨rfl, HBU.out⟩
      have hp1' : M p = false := by simpa using hp1
      rw [hp1'] at m0
      by_cases hq1 : M q = true
      · rw [hq1] at m1
        have HF : R = false := HNo.out (fun e => by
          have e3 : teamsR (r.take k) ++ (p : Int) :: (q : Int) :: teamsR (r.drop (k + 1)) = (teamsR (r.take k) ++ [(p : Int)]) ++ (q : Int) :: teamsR (r.drop (k + 1)) := by simp
          rw [HTA.out, e3] at e
          exact not_once_dup (List.mem_append_left _ (HMq.out.1 hq1)) e)
        subst HF
        clear HNo HY HTA HTK HV HM HMp HMq hp1 hq1 hp1'
        go_wp2_with fail
        refine CA.out.mono ?_
        rintro e wx ⟨rfl, rfl⟩
        clear hU CA
        go_wp2
        go_ret
        exact ⟨rfl, HBU.out⟩
      have hq1' : M q = false := by simpa using hq1
      rw [hq1'] at m1
      have HVN : Hid (onceP N (teamsR (r.take (k + 1)))) := by
        show onceP _ _
        rw [HTK.out, show teamsR (r.take k) ++ [(p : Int), (q : Int)] = (teamsR (r.take k) ++ [(p : Int)]) ++ [(q : Int)] by simp]
        refine onceP_push (onceP_push HV.out ⟨o1, by omega⟩ (fun e => hp1 (HMp.out.2 e))) ⟨o3, by omega⟩ (fun e => ?_)
        rcases List.mem_append.1 e with e | e
        · exact hq1 (HMq.out.2 e)
        · have := List.mem_singleton.1 e; omega
      have HMN : Hid (∀ j : Nat, j < 8 → (((M j || decide (j = p)) || decide (j = q)) = true ↔ (j : Int) ∈ teamsR (r.take (k + 1)))) := fun j hj => by
        rw [HTK.out, List.mem_append]
        have h1 := HM.out j hj
        simp only [Bool.or_eq_true, decide_eq_true_eq, List.mem_cons, List.not_mem_nil, or_false]
        rw [h1]
        constructor
        · rintro ((h | h) | h)
          · exact .inl h
          · exact .inr (.inl (by rw [h]))
          · exact .inr (.inr (by rw [h]))
        · rintro (h | h | h)
          · exact .inl (.inl h)
          · exact .inl (.inr (by omega))
          · exact .inr (by omega)
      have HSN : Hid (SeenN 8 ((U.setCell ⟨w.heap.size, p, none⟩ (.bool true)).setCell ⟨w.heap.size, q, none⟩ (.bool true)) w.heap.size (fun j => (M j || decide (j = p)) || decide (j = q))) := (HSU.out.set p p8).set q q8
      have HBN : Hid (Below w.heap.size w ((U.setCell ⟨w.heap.size, p, none⟩ (.bool true)).setCell ⟨w.heap.size, q, none⟩ (.bool true))) := (HBU.out.setCell (Nat.le_refl _) _).setCell (Nat.le_refl _) _
      clear HNo HY HTA HTK HV HM HMp HMq hp1 hq1 hp1' hq1' o5
      go_wp2_with fail
      refine CA.out.mono ?_
      rintro e wx ⟨rfl, rfl⟩
      clear hU CA
      have hne : w.heap.size ≠ wr.heap.size := HP.out
      go_wp2_with fail
      go_region
      all_goals (try go_wp2)
      all_goals go_roundw
      case rel => exact ⟨k + 1, _, by omega, by go_num, HVN, HSN.out.below (Below.refl _ _).drew, HMN, HBN.out.drew⟩
      case measure => simp [RowKit.intOf]; omega
    obtain rfl : k = n := by omega
    obtain rfl := HY.out (by have h9 := HV.out; rw [List.take_of_length_le (by have := HD.out; omega)] at h9; exact h9)
    go_wp2
    go_ret
    exact ⟨rfl, HB.out⟩
end Go.Proofs.Ytgemdjcadlejfaa
set_option linter.unusedVariables false
namespace Go.Proofs.Ytgemdjcadlejfaa
open Go.RowKit

theorem notRound_impl (N : Int) (v : Value) (r : PairL) (B : Nat) (R : Bool) (hR : R = true ↔ onceP N (teamsR r)) (hN : N ≤ 8) (w : World) (h : RdA tPairS w [v] r) (v1 : BoxN w B [.int .i64 N]) :
    Calls Try.prog 64 #[v, .pointer (some ⟨B, 0, none⟩)] w fun e w' => e = .returned (.bool (!R)) ∧ Below w.heap.size w w' := by
  have C := Lib.hid (isRound_impl N v r R hR hN w h)
  have c1 := v1.2 0 _ rfl
  clear h hR
  go_enter Try.func64, Try.ntmps64
  go_wp2_with fail
  refine C.out.mono ?_
  rintro e w1 ⟨rfl, b1⟩
  have HB := Lib.hid b1
  clear b1 C c1
  go_wp2
  go_ret
  exact ⟨rfl, HB.out⟩
set_option maxRecDepth 100000 in
set_option maxHeartbeats 4000000 in
theorem indexBad_impl (v : Value) (d : List PairL) (N : Int) (B : Nat) (hN : N ≤ 8) (w : World) (h : RdA tPairSS w [v] d) (v1 : BoxN w B [.int .i64 N]) :
    Calls Try.prog 52 #[v, .func (.func 64) #[] #[.pointer (some ⟨B, 0, none⟩)]] w fun e w' => ∃ z : Int, e = .returned (.int .i64 z) ∧ (0 ≤ z ↔ ¬ ∀ r ∈ d, onceP N (teamsR r)) ∧ Below w.heap.size w w' := by
  obtain ⟨a, c, rfl, hn⟩ := schedule_form h
  have HR := Lib.hid h
  have K1 := Lib.hid v1
  clear h v1
  obtain ⟨n, hd⟩ : ∃ n, List.length (α := PairL) d = n := ⟨_, rfl⟩
  have HD := Lib.hid hd
  rw [hd] at hn ⊢
  clear hd
  go_enter Try.func52, Try.ntmps52
  go_wp2
  go_loopw [8] (fun iv wr => ∃ k : Nat, k ≤ n ∧ iv = .int .i64 k ∧ Hid (∀ r ∈ d.take k, onceP N (teamsR r)) ∧ Hid (Below w.heap.size w wr)) (fun iv _ => n - (RowKit.intOf iv).toNat)
  case atStart => exact ⟨0, Nat.zero_le _, rfl, fun r hr => (by simp at hr), Below.refl _ _⟩
  case round =>
    obtain ⟨k, hk9, rfl, HV, HB⟩ := hrel
    by_cases hlt : k < n
    · obtain ⟨r, hr⟩ : ∃ r : PairL, d[k]? = some r := ⟨_, List.getElem?_eq_getElem (by rw [HD.out]; exact hlt)⟩
      have HRr := HR.out.below HB.out
      obtain ⟨b, off, x, xc, rfl, hcap, q0, hrr, hm63⟩ := round_cells HRr hr
      rw [HD.out] at hcap
      have hj1 : (k : Int) < (n : Int) := by omega
      obtain ⟨R, hR⟩ := boolEx (onceP N (teamsR r))
      have C := Lib.hid (notRound_impl N _ r B R hR hN _ hrr (K1.out.below HB.out))
      have HIN : Hid (r ∈ d) := List.mem_of_getElem? hr
      have HTK : Hid (d.take (k + 1) = d.take k ++ [r]) := by show _ = _; rw [List.take_add_one, hr]; rfl
      clear hr HRr hrr
      obtain ⟨m, hm⟩ : ∃ m, List.length (α := tPair.D) r = m := ⟨_, rfl⟩
      rw [hm] at q0 hm63 C
      clear hm
      cases R with
      | false =>
        have HVx : Hid ((0 : Int) ≤ k ↔ ¬ ∀ r ∈ d, onceP N (teamsR r)) := ⟨fun _ h => (by have := hR.2 (h r HIN.out); cases this), fun _ => Int.natCast_nonneg k⟩
        clear hR HTK HV
        go_wp2_with (go_at_call 64; refine C.out.mono ?_; rintro e w2 ⟨rfl, b2⟩; have HB2 := Lib.hid (HB.out.trans (b2.mono HB.out.size)); clear b2)
        go_ret
        exact ⟨_, rfl, HVx.out, HB2.out⟩
      | true =>
        have HVx : Hid (∀ r ∈ d.take (k + 1), onceP N (teamsR r)) := fun q hq => by
          rw [HTK.out] at hq
          rcases List.mem_append.1 hq with hq | hq
          · exact HV.out q hq
          · rw [List.mem_singleton.1 hq]; exact hR.1 rfl
        clear hR HTK HV
        go_wp2_with (go_at_call 64; refine C.out.mono ?_; rintro e w2 ⟨rfl, b2⟩; have HB2 := Lib.hid (HB.out.trans (b2.mono HB.out.size)); clear b2)
        go_roundw
        case rel => exact ⟨k + 1, by omega, by go_num, HVx, HB2⟩
        case measure => simp [RowKit.intOf]; omega
    obtain rfl : k = n := by omega
    have HVx : Hid ((0 : Int) ≤ -1 ↔ ¬ ∀ r ∈ d, onceP N (teamsR r)) := ⟨fun h => absurd h (by omega), fun h => absurd (fun r hr => HV.out r (by rw [List.take_of_length_le (by have := HD.out; omega)]; exact hr)) h⟩
    clear HV
    go_wp2
    go_ret
    exact ⟨_, rfl, HVx.out, HB.out⟩
theorem containsBad_impl (v : Value) (d : List PairL) (N : Int) (B : Nat) (hN : N ≤ 8) (R : Bool) (hR : R = true ↔ ∀ r ∈ d, onceP N (teamsR r)) (w : World) (h : RdA tPairSS w [v] d) (v1 : BoxN w B [.int .i64 N]) :
    Calls Try.prog 63 #[v, .func (.func 64) #[] #[.pointer (some ⟨B, 0, none⟩)]] w fun e w' => e = .returned (.bool (!R)) ∧ Below w.heap.size w w' := by
  have C := Lib.hid (indexBad_impl v d N B hN w h v1)
  have HR := Lib.hid hR
  clear hR h v1
  go_enter Try.func63, Try.ntmps63
  go_wp2_with fail
  refine C.out.mono ?_
  rintro e w1 ⟨z, rfl, hz, b1⟩
  have HB := Lib.hid b1
  have e : decide (0 ≤ z) = !R := by
    cases R with
    | true => exact decide_eq_false fun h => hz.1 h (HR.out.1 rfl)
    | false => exact decide_eq_true (hz.2 fun h => by have := HR.out.2 h; cases this)
  clear b1 C hz HR
  go_wp2
  go_ret
  exact ⟨by first | rfl | (rw [← e]; rfl) | (rw [e]; rfl), HB.out⟩
set_option maxRecDepth 100000 in
set_option maxHeartbeats 4000000 in
theorem isSchedule_impl (v : Value) (d : List PairL) (N : Int) (R : Bool) (w : World) (hR : R = true ↔ schedP N d) (h : RdA tPairSS w [v] d) (hw : tPairSS.wt d ≤ 1048576) :
    Calls Try.prog 31 #[.int .i64 N, v] w fun e w' => e = .returned (.bool R) ∧ Below w.heap.size w w' := by
  have b1 : Below w.heap.size w (w.alloc (.cells #[.int .i64 N] 3)) := (Below.refl _ _).alloc (Nat.le_refl _) _
  have HB := Lib.hid b1
  have BX : BoxN (w.alloc (.cells #[.int .i64 N] 3)) w.heap.size [.int .i64 N] := BoxN.made (Below.refl _ _) rfl
  have h1 := h.below b1
  obtain ⟨a, c, rfl, hn⟩ := schedule_form h
  have HN := Lib.hid (boolF hR)
  have HY := Lib.hid (boolT hR)
  obtain ⟨r1, hr1⟩ := boolEx (∀ r ∈ d, onceP N (teamsR r))
  have C := Lib.hid (fun hN => containsBad_impl _ d N w.heap.size hN r1 hr1 _ h1 BX)
  clear h h1 BX b1 hR hw
  obtain ⟨n, hd⟩ : ∃ n, List.length (α := PairL) d = n := ⟨_, rfl⟩
  have HD := Lib.hid hd
  rw [hd] at hn C ⊢
  clear hd
  by_cases h2 : 2 ≤ N
  case neg =>
    have g1 : decide (2 ≤ N) = false := decide_eq_false h2
    obtain rfl := HN.out (fun e => h2 e.1.1)
    clear HN HY C hr1
    go_enter Try.func31, Try.ntmps31
    go_wp2
    go_ret
    exact ⟨rfl, HB.out⟩
  have g1 : decide (2 ≤ N) = true := decide_eq_true h2
  by_cases h8 : N ≤ 8
  case neg =>
    have g2 : decide (N ≤ 8) = false := decide_eq_false h8
    obtain rfl := HN.out (fun e => h8 e.1.2)
    clear HN HY C hr1
    go_enter Try.func31, Try.ntmps31
    go_wp2
    go_ret
    exact ⟨rfl, HB.out⟩
  have g2 : decide (N ≤ 8) = true := decide_eq_true h8
  by_cases hl : n ≤ 14
  case neg =>
    have g3 : decide ((n : Int) ≤ 14) = false := decide_eq_false (by omega)
    have g3' : decide (n ≤ 14) = false := decide_eq_false (by omega)
    obtain rfl := HN.out (fun e => hl (by have := e.2.1; rw [HD.out] at this; exact this))
    clear HN HY C hr1
    go_enter Try.func31, Try.ntmps31
    go_wp2
    go_ret
    exact ⟨rfl, HB.out⟩
  have g3 : decide ((n : Int) ≤ 14) = true := decide_eq_true (by omega)
  have g3' : decide (n ≤ 14) = true := decide_eq_true (by omega)
  have e : R = r1 := by
    cases r1 with
    | true => exact HY.out ⟨⟨h2, h8⟩, by rw [HD.out]; exact hl, hr1.1 rfl⟩
    | false => exact HN.out fun h => by have := hr1.2 h.2.2; cases this
  subst e
  have C2 := Lib.hid (C.out h8)
  have hmf : ∀ (fn : Fn) (first cap : Array Value) (w : World), (Instr.makeFunc fn first cap).run Try.prog w = .ok (.func fn first cap) w := fun _ _ _ _ => rfl
  clear HN HY C hr1
  go_enter Try.func31, Try.ntmps31
  go_wp2_with fail
  refine C2.out.mono ?_
  rintro e w1 ⟨rfl, b1⟩
  have HB2 := Lib.hid (HB.out.trans (b1.mono HB.out.size))
  clear b1 C2 HB hmf
  cases R with
  | true =>
    go_wp2
    go_ret
    exact ⟨rfl, HB2.out⟩
  | false =>
    go_wp2
    go_ret
    exact ⟨rfl, HB2.out⟩
end Go.Proofs.Ytgemdjcadlejfaa
set_option linter.unusedVariables false
namespace Go.Proofs.Ytgemdjcadlejfaa
open Go.RowKit

def metP (d : List PairL) (T : Int) (a b : Nat) : Prop := cntL a b d ≤ 1 ∧ cntL b a d ≤ 1 ∧ (cntL a b d : Int) + (cntL b a d : Int) = T
def robinP (N : Int) (d : List PairL) (T : Int) : Prop := schedP N d ∧ (1 ≤ T ∧ T ≤ 2) ∧ ∀ a b : Nat, b < a → (a : Int) < N → metP d T a b
set_option maxRecDepth 100000 in
set_option maxHeartbeats 4000000 in
theorem isRoundRobin_spec (v : Value) (d : List PairL) (N T : Int) (R : Bool) (w : World) (hR : R = true ↔ robinP N d T) (h : RdA tPairSS w [v] d) (hw : tPairSS.wt d ≤ 1048576) :
    Calls Try.prog 32 #[.int .i64 N, v, .int .i64 T] w fun e w' => e = .returned (.bool R) ∧ Below w.heap.size w w' := by
  obtain ⟨a, c, rfl, hn⟩ := schedule_form h
  have HR := Lib.hid h
  obtain ⟨r1, hr1⟩ := boolEx (schedP N d)
  have C1 := Lib.hid (isSchedule_spec _ d N r1 w hr1 h hw)
  have CC : Hid (∀ (x y : Int) wa, Below w.heap.size w wa → Calls Try.prog 66 #[.slice a (List.length (α := PairL) d) c, .int .i64 x, .int .i64 y] wa fun e w' => e = .returned (.int .i64 (cntL x y d)) ∧ Below wa.heap.size wa w') := fun x y wa hb => l09Count_spec _ d x y wa (HR.out.below hb) hw
  have CL : Hid (∀ x y : Int, cntL x y d ≤ 1048576) := fun x y => Nat.le_trans (cntL_le x y d) hw
  have HN := Lib.hid (boolF hR)
  have HY := Lib.hid (boolT hR)
  have HR1 := Lib.hid hr1
  clear hR hr1 h hw HR
  generalize hdl : List.length (α := PairL) d = n at *
  clear hdl
  go_enter Try.func32, Try.ntmps32
  go_wp2_with fail
  refine C1.out.mono ?_
  rintro e w1 ⟨rfl, b1⟩
  have HB1 := Lib.hid b1
  clear b1 C1
  cases r1 with
  | false =>
    obtain rfl := HN.out (fun e => by have := HR1.out.2 e.1; cases this)
    go_wp2
    go_ret
    exact ⟨rfl, HB1.out⟩
  | true =>
  have HS : Hid (schedP N d) := HR1.out.1 (by first | rfl | trivial)
  clear HR1
  by_cases hT : 1 ≤ T ∧ T ≤ 2
  case neg =>
    obtain rfl := HN.out (fun e => hT e.2.1)
    go_wp2_with fail
    refine (l01In_no _ _ _ _ hT).mono ?_
    rintro e wx ⟨rfl, rfl⟩
    go_wp2
    go_ret
    exact ⟨rfl, HB1.out⟩
  go_wp2_with fail
  refine (l01In_yes _ _ _ _ hT).mono ?_
  rintro e wx ⟨rfl, rfl⟩
  have hN2 : 2 ≤ N ∧ N ≤ 8 := HS.out.1
  go_wp2
  go_loopw [7] (fun av wr => ∃ x : Nat, (x : Int) ≤ N ∧ av = .int .i64 x ∧ Hid (∀ a b : Nat, b < a → a < x → metP d T a b) ∧ Hid (Below w.heap.size w wr)) (fun av _ => N.toNat - (RowKit.intOf av).toNat)
  case atStart => exact ⟨0, by omega, rfl, fun a b _ h => absurd h (Nat.not_lt_zero _), HB1⟩
  case round =>
    clear HB1
    obtain ⟨x, hx9, rfl, HV, HB⟩ := hrel
    by_cases hlt : (x : Int) < N
    · go_wp2
      generalize wr = w2 at *
      go_loopw [8] (fun bv wi => ∃ y : Nat, y ≤ x ∧ bv = .int .i64 y ∧ Hid (∀ b : Nat, b < y → metP d T x b) ∧ Hid (Below w.heap.size w wi)) (fun bv _ => x - (RowKit.intOf bv).toNat)
      case atStart => exact ⟨0, Nat.zero_le _, rfl, fun b h => absurd h (Nat.not_lt_zero _), HB⟩
      case round =>
        clear HB
        obtain ⟨y, hy9, rfl, HW, HB⟩ := hrel
        by_cases hlt2 : y < x
        · have hj2 : (y : Int) < (x : Int) := by omega
          go_wp2_with fail
          refine (CC.out _ _ _ HB.out).mono ?_
          rintro e w3 ⟨rfl, b3⟩
          have HB3 := Lib.hid (HB.out.trans (b3.mono HB.out.size))
          clear b3 HB
          go_wp2_with fail
          refine (CC.out _ _ _ HB3.out).mono ?_
          rintro e w4 ⟨rfl, b4⟩
          have HB4 := Lib.hid (HB3.out.trans (b4.mono HB3.out.size))
          clear b4 HB3
          have hp1 := CL.out x y
          have hp2 := CL.out y x
          obtain ⟨p, hp⟩ : ∃ p, cntL x y d = p := ⟨_, rfl⟩
          obtain ⟨q, hq⟩ : ∃ q, cntL y x d = q := ⟨_, rfl⟩
          have HM : Hid (metP d T x y ↔ (p ≤ 1 ∧ q ≤ 1 ∧ (p : Int) + (q : Int) = T)) := by unfold metP; rw [hp, hq]; exact Iff.rfl
          rw [hp] at hp1 ⊢
          rw [hq] at hp2 ⊢
          clear hp hq
          have HBAD : Hid (¬ (p ≤ 1 ∧ q ≤ 1 ∧ (p : Int) + (q : Int) = T) → R = false) := fun h => HN.out (fun e => h (HM.out.1 (e.2.2 x y hlt2 hlt)))
          have s1 : IntKind.i64.wrap ((p : Int) + (q : Int)) = (p : Int) + (q : Int) := IntWalk.i64_in _ (by omega)
          by_cases h1 : p ≤ 1
          case neg =>
            obtain rfl := HBAD.out (fun h => h1 h.1)
            have g1 : decide ((1 : Int) < (p : Int)) = true := decide_eq_true (by omega)
            have g1' : decide (1 < p) = true := decide_eq_true (by omega)
            clear HBAD HM
            go_wp2
            go_ret
            exact ⟨rfl, HB4.out⟩
          have g1 : decide ((1 : Int) < (p : Int)) = false := decide_eq_false (by omega)
          have g1' : decide (1 < p) = false := decide_eq_false (by omega)
          by_cases h2 : q ≤ 1
          case neg =>
            obtain rfl := HBAD.out (fun h => h2 h.2.1)
            have g2 : decide ((1 : Int) < (q : Int)) = true := decide_eq_true (by omega)
            have g2' : decide (1 < q) = true := decide_eq_true (by omega)
            clear HBAD HM
            go_wp2
            go_ret
            exact ⟨rfl, HB4.out⟩
          have g2 : decide ((1 : Int) < (q : Int)) = false := decide_eq_false (by omega)
          have g2' : decide (1 < q) = false := decide_eq_false (by omega)
          by_cases h3 : (p : Int) + (q : Int) = T
          case neg =>
            obtain rfl := HBAD.out (fun h => h3 h.2.2)
            have g3 : ((p : Int) + (q : Int) != T) = true := by simpa using h3
            clear HBAD HM h3
            go_wp2
            go_ret
            exact ⟨rfl, HB4.out⟩
          have g3 : ((p : Int) + (q : Int) != T) = false := by simpa using h3
          have HMY : Hid (metP d T x y) := HM.out.2 ⟨h1, h2, h3⟩
          clear HBAD HM h3
          have HW2 : Hid (∀ b : Nat, b < y + 1 → metP d T x b) := fun b hb => by
            by_cases e : b = y
            · subst e; exact HMY.out
            · exact HW.out b (by omega)
          go_wp2
          go_roundw
          case rel => exact ⟨y + 1, by omega, by go_num, HW2, HB4⟩
          case measure => simp [RowKit.intOf]; omega
        obtain rfl : y = x := by omega
        have HV2 : Hid (∀ a b : Nat, b < a → a < y + 1 → metP d T a b) := fun a b h1 h2 => by
          by_cases e : a = y
          · subst e; exact HW.out b h1
          · exact HV.out a b h1 (by omega)
        go_wp2
        go_roundw
        case rel => exact ⟨y + 1, by omega, by go_num, HV2, HB⟩
        case measure => simp [RowKit.intOf]; omega
    obtain rfl := HY.out ⟨HS.out, hT, fun a b h1 h2 => HV.out a b h1 (by omega)⟩
    go_wp2
    go_ret
    exact ⟨rfl, HB.out⟩
def totB (d : List PairL) : Nat → Nat
  | 0 => 0
  | k + 1 => totB d k + breaksL d k
theorem totB_succ (d : List PairL) (k : Nat) : totB d (k + 1) = totB d k + breaksL d k := rfl
set_option maxRecDepth 100000 in
set_option maxHeartbeats 4000000 in
theorem totalBreaks_spec (v : Value) (d : List PairL) (N : Int) (R : Bool) (w : World) (hR : R = true ↔ schedP N d) (h : RdA tPairSS w [v] d) (hw : tPairSS.wt d ≤ 1048576) :
    Calls Try.prog 38 #[.int .i64 N, v] w fun e w' => e = .returned (.int .i64 (if R = true then (totB d N.toNat : Nat) else -1)) ∧ Below w.heap.size w w' := by
  obtain ⟨a, c, rfl, hn⟩ := schedule_form h
  have HR := Lib.hid h
  obtain ⟨r1, hr1⟩ := boolEx (schedP N d)
  obtain rfl : R = r1 := by cases R <;> cases r1 <;> simp_all
  have C1 := Lib.hid (isSchedule_spec _ d N R w hr1 h hw)
  have CC : Hid (∀ (x : Int) wa, Below w.heap.size w wa → Calls Try.prog 37 #[.slice a (List.length (α := PairL) d) c, .int .i64 x] wa fun e w' => e = .returned (.int .i64 (breaksL d x)) ∧ Below wa.heap.size wa w') := fun x wa hb => breaksOf_spec _ d x wa (HR.out.below hb) hw
  have HS : Hid (R = true → schedP N d) := fun e => hR.1 e
  have CL : Hid (R = true → ∀ x : Int, breaksL d x ≤ 14) := fun e x => Nat.le_trans (brkN_le _ _) (hR.1 e).2.1
  clear hR hr1 h hw HR
  generalize hdl : List.length (α := PairL) d = n at *
  clear hdl
  go_enter Try.func38, Try.ntmps38
  go_wp2_with fail
  refine C1.out.mono ?_
  rintro e w1 ⟨rfl, b1⟩
  have HB1 := Lib.hid b1
  clear b1 C1
  cases R with
  | false =>
    go_wp2
    go_ret
    exact ⟨by rfl, HB1.out⟩
  | true =>
  have hN2 : 2 ≤ N ∧ N ≤ 8 := (HS.out (by first | rfl | trivial)).1
  have CB := Lib.hid (CL.out (by first | rfl | trivial))
  clear HS CL
  go_wp2
  go_loopw [5, 6] (fun sv av wr => ∃ x z : Nat, (x : Int) ≤ N ∧ av = .int .i64 x ∧ sv = .int .i64 z ∧ Hid (z = totB d x) ∧ z ≤ 14 * x ∧ Hid (Below w.heap.size w wr)) (fun _ av _ => N.toNat - (RowKit.intOf av).toNat)
  case atStart => exact ⟨0, 0, by omega, rfl, rfl, rfl, Nat.le_refl _, HB1⟩
  case round =>
    clear HB1
    obtain ⟨x, z, hx9, rfl, rfl, HZ, hz, HB⟩ := hrel
    by_cases hlt : (x : Int) < N
    · have hb14 := CB.out x
      have HZ2 : Hid (z + breaksL d x = totB d (x + 1)) := by show _ = _; rw [totB_succ, HZ.out]
      go_wp2_with fail
      refine (CC.out _ _ HB.out).mono ?_
      rintro e w3 ⟨rfl, b3⟩
      have HB3 := Lib.hid (HB.out.trans (b3.mono HB.out.size))
      clear b3 HB
      generalize breaksL d x = y at *
      have s1 : IntKind.i64.wrap ((z : Int) + (y : Int)) = (z : Int) + (y : Int) := IntWalk.i64_in _ (by omega)
      go_wp2
      go_roundw
      case rel => exact ⟨x + 1, z + y, by omega, by go_num, by go_num, HZ2, by omega, HB3⟩
      case measure => simp [RowKit.intOf]; omega
    obtain rfl : N.toNat = x := by omega
    have HZ2 := HZ
    go_wp2
    go_ret
    exact ⟨by rw [HZ2.out]; rfl, HB.out⟩
end Go.Proofs.Ytgemdjcadlejfaa
set_option linter.unusedVariables false
namespace Go.Proofs.Ytgemdjcadlejfaa
open Go.RowKit

def Whole (w : World) (B : Nat) (cs : Array Value) (t : TypeId) : Prop := w.heap[B]? = some (.cells cs t (0, 0))
theorem Whole.lt {w : World} {B : Nat} {cs : Array Value} {t : TypeId} (h : Whole w B cs t) : B < w.heap.size := (Array.getElem?_eq_some_iff.1 h).1
theorem Whole.made (w : World) (cs : Array Value) (t : TypeId) : Whole (w.alloc (.cells cs t)) w.heap.size cs t := by
  show (w.heap.push _)[w.heap.size]? = _
  simp
theorem Whole.below {w w' : World} {B : Nat} {cs : Array Value} {t : TypeId} (h : Whole w B cs t) (hb : Below w.heap.size w w') : Whole w' B cs t := (hb.block B h.lt).trans h
theorem Whole.low {w w' : World} {B base : Nat} {cs : Array Value} {t : TypeId} (h : Whole w B cs t) (hb : Below base w w') (hB : B < base) : Whole w' B cs t := (hb.block B hB).trans h
theorem Whole.cell {w : World} {B j : Nat} {cs : Array Value} {t : TypeId} (h : Whole w B cs t) {v : Value} (hv : cs[j]? = some v) : w.cell? ⟨B, j, none⟩ = some v := (cell_of_row w B j cs t (0, 0) h).trans hv
theorem Whole.free {w : World} {B : Nat} {cs : Array Value} {t : TypeId} (h : Whole w B cs t) (j : Nat) : w.frozen? ⟨B, j, none⟩ = false := frozen_of_row w B j cs t h
theorem Whole.set {w : World} {B : Nat} {cs : Array Value} {t : TypeId} (h : Whole w B cs t) (j : Nat) (v : Value) : Whole (w.setCell ⟨B, j, none⟩ v) B (cs.setIfInBounds j v) t := by
  show (w.heap.modify B _)[B]? = _
  rw [Array.getElem?_modify, if_pos rfl, show w.heap[B]? = _ from h]
  rfl
theorem Whole.other {w : World} {B : Nat} {cs : Array Value} {t : TypeId} (h : Whole w B cs t) (a : Addr) (v : Value) (hne : a.block ≠ B) : Whole (w.setCell a v) B cs t := by
  show (w.heap.modify a.block _)[B]? = _
  rw [Array.getElem?_modify, if_neg hne]
  exact h
theorem Whole.setRow {w : World} {B : Nat} {cs ds : Array Value} {t : TypeId} (h : Whole w B cs t) : Whole (w.setRow B ds) B ds t := setRow_heap w B cs ds t (0, 0) h
theorem below_setRow {w w' : World} {base B : Nat} {ds : Array Value} (h : Below base w w') (hB : base ≤ B) : Below base w (w'.setRow B ds) :=
  ⟨h.os, h.tape, h.output, by simpa [World.setRow] using h.size, fun k hk => (setRow_other w' B k ds (by omega)).trans (h.block k hk)⟩
theorem results_cell1 {fn : Func} {p : Tmp} {ty : TypeId} (h : fn.results = #[.cell p ty]) {tmps : Array Value} {P : Program} {w : World} {B : Nat} {v : Value} (ha : tmps.getD p undef = .pointer (some ⟨B, 0, none⟩)) (hl : (loadVar ty ⟨B, 0, none⟩).run P w = .ok v w) :
    (results fn tmps).run P w = .ok v w := by
  simp only [results, h]
  simp [asAddr, -Array.getD_eq_getD_getElem?, ha, hl]
end Go.Proofs.Ytgemdjcadlejfaa
