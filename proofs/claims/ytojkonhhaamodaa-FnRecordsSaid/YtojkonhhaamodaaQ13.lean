/-
  Packed: GamesImpl, RecImplA, Maps, FieldImpl, FieldMap.
-/
import Derived.Maps.OwnOps
import Derived.Maps.OwnSet
import Derived.Maps.Views
import Derived.Maps.RangeWalk
import Derived.Test.YtojkonhhaamodaaQ1
import Derived.Test.YtojkonhhaamodaaQ3
import Derived.Test.YtojkonhhaamodaaQ12
set_option linter.unusedVariables false
namespace Go.Proofs.Ytojkonhhaamodaa
open Go.RowKit

theorem SeenN.below {K : Nat} {w w' : World} {B : Nat} {S : Nat → Bool} (h : SeenN K w B S) (hb : Below w.heap.size w w') : SeenN K w' B S :=
  ⟨Nat.lt_of_lt_of_le h.1 hb.size, fun j hj => ⟨(hb.cell (p := ⟨B, j, none⟩) h.1).trans (h.2 j hj).1, (hb.frozen (p := ⟨B, j, none⟩) h.1).trans (h.2 j hj).2⟩⟩
/-- a pair of teams as one number -/
def pairG (g : Nat → GameD) (i : Nat) : Int := (g i).home * 8 + (g i).away
theorem pair_first {n : Int} {m k : Nat} {g : Nat → GameD} (hk : k < m) (hall : ∀ i, i < k → gameP n (g i)) (hg : gameP n (g k)) :
    firstI (atG g (g k).home (g k).away) m 0 = (k : Int) ↔ ¬ hasP (pairG g) (pairG g k) k := by
  rw [firstI_eq m 0 k]
  obtain ⟨⟨_, hn⟩, ⟨q1, q2⟩, ⟨q3, q4⟩, _⟩ := hg
  constructor
  · rintro ⟨_, _, h⟩ ⟨i, hi, e⟩
    obtain ⟨_, ⟨r1, r2⟩, ⟨r3, r4⟩, _⟩ := hall i hi
    have h2 := h i (Nat.zero_le _) hi
    unfold pairG at e
    have e1 : (g i).home = (g k).home := by omega
    have e2 : (g i).away = (g k).away := by omega
    unfold atG at h2
    rw [e1, e2] at h2
    simp at h2
  · intro h
    refine ⟨⟨Nat.zero_le _, by omega⟩, by simp [atG], fun i _ hi => ?_⟩
    cases hq : atG g (g k).home (g k).away i with
    | false => rfl
    | true =>
      unfold atG at hq
      simp only [Bool.and_eq_true, beq_iff_eq] at hq
      exact absurd ⟨i, hi, by unfold pairG; rw [hq.1, hq.2]⟩ h

set_option maxHeartbeats 1000000 in
theorem seasonOk_impl (n : Int) (v : Value) (m : Nat) (g : Nat → GameD) (R : Bool) (w : World) (hR : R = true ↔ seasonP n m g) (hv : GameRow w v m g) :
    Calls Try.prog 17 #[.int .i64 n, v] w fun e w' => e = .returned (.bool R) ∧ Below w.heap.size w w' := by
  obtain ⟨aa, cap, rfl, hn, hc⟩ := hv.form
  have HV := Lib.hid hc
  have HR := Lib.hid hR
  clear hc hv hR
  by_cases h60 : 60 < m
  · have g0 : decide (60 < (m : Int)) = true := decide_eq_true (by omega)
    have g0' : decide (60 < m) = true := decide_eq_true h60
    have hf : R = false := by
      cases R with
      | false => rfl
      | true => have := (HR.out.1 rfl).1; omega
    subst hf
    clear HR
    go_enter Try.func17, Try.ntmps17
    go_wp2
    go_ret
    exact ⟨rfl, Below.refl _ _⟩
  have g0 : decide (60 < (m : Int)) = false := decide_eq_false (by omega)
  have g0' : decide (60 < m) = false := decide_eq_false h60
  have HNO : Hid (∀ k, k < m → ¬ (gameP n (g k) ∧ firstI (atG g (g k).home (g k).away) m 0 = (k : Int)) → R = false) := fun k hk h => by
    cases R with
    | false => rfl
    | true => exact absurd ((HR.out.1 rfl).2 k hk) h
  have HYES : Hid ((∀ i, i < m → gameP n (g i) ∧ firstI (atG g (g i).home (g i).away) m 0 = (i : Int)) → R = true) := fun h => HR.out.2 ⟨by omega, h⟩
  clear HR
  have s1 := SeenN.made 64 w (Array.replicate 64 (.bool false)) 76 (fun j hj => by simp [hj])
  have es : Array.replicate 64 (Value.bool false) = #[.bool false, .bool false, .bool false, .bool false, .bool false, .bool false, .bool false, .bool false, .bool false, .bool false, .bool false, .bool false, .bool false, .bool false, .bool false, .bool false, .bool false, .bool false, .bool false, .bool false, .bool false, .bool false, .bool false, .bool false, .bool false, .bool false, .bool false, .bool false, .bool false, .bool false, .bool false, .bool false, .bool false, .bool false, .bool false, .bool false, .bool false, .bool false, .bool false, .bool false, .bool false, .bool false, .bool false, .bool false, .bool false, .bool false, .bool false, .bool false, .bool false, .bool false, .bool false, .bool false, .bool false, .bool false, .bool false, .bool false, .bool false, .bool false, .bool false, .bool false, .bool false, .bool false, .bool false, .bool false] := by rfl
  rw [es] at s1
  clear es
  go_enter Try.func17, Try.ntmps17
  go_wp2
  go_loopw [13] (fun i wr => ∃ (k : Nat) (M : Nat → Bool), k ≤ m ∧ i = .int .i64 k ∧ Hid (∀ i, i < k → gameP n (g i) ∧ firstI (atG g (g i).home (g i).away) m 0 = (i : Int)) ∧ Hid (SeenN 64 wr w.heap.size M) ∧ Hid (∀ j : Nat, j < 64 → (M j = true ↔ hasP (pairG g) j k)) ∧ Below w.heap.size w wr) (fun i _ => m - (intOf i).toNat)
  case atStart => exact ⟨0, _, Nat.zero_le _, rfl, fun i hi => absurd hi (by omega), s1, fun j _ => ⟨fun h => absurd h (by simp), fun ⟨i, hi, _⟩ => absurd hi (by omega)⟩, (Below.refl _ _).alloc (Nat.le_refl _) _⟩
  case round =>
    clear s1
    obtain ⟨k, M, hk, rfl, hok, hS, hSk, hb⟩ := hrel
    by_cases hlt : k < m
    · obtain ⟨b, off, rfl, hcap, hc⟩ := HV.out (by omega)
      have hq := (hc k hlt).belowB hb (hc k hlt).1
      have HS : Hid ((gameP n (g k) ∧ firstI (atG g (g k).home (g k).away) m 0 = (k : Int)) → ∀ i, i < k + 1 → gameP n (g i) ∧ firstI (atG g (g i).home (g i).away) m 0 = (i : Int)) := fun h i hi => by
        by_cases hik : i = k
        · subst hik; exact h
        · exact hok.out i (by omega)
      have HN := Lib.hid (HNO.out k hlt)
      have HP : Hid (gameP n (g k) → (firstI (atG g (g k).home (g k).away) m 0 = (k : Int) ↔ ¬ hasP (pairG g) (pairG g k) k)) := fun h => pair_first hlt (fun i hi => (hok.out i hi).1) h
      have HE : Hid (∀ t : Nat, pairG g k = t → ∀ j : Nat, j < 64 → ((M j || decide (j = t)) = true ↔ hasP (pairG g) j (k + 1))) := fun t ht j hj => by
        simp only [Bool.or_eq_true, decide_eq_true_eq]
        constructor
        · rintro (h | rfl)
          · obtain ⟨i, hi, hij⟩ := (hSk.out j hj).1 h
            exact ⟨i, by omega, hij⟩
          · exact ⟨k, by omega, ht⟩
        · rintro ⟨i, hi, hij⟩
          by_cases hik : i = k
          · subst hik; right; omega
          · exact .inl ((hSk.out j hj).2 ⟨i, by omega, hij⟩)
      have HSm : Hid (∀ t : Nat, t < 64 → pairG g k = t → (M t = true ↔ hasP (pairG g) (pairG g k) k)) := fun t h6 ht => by rw [ht]; exact hSk.out t h6
      have HPK : Hid (pairG g k = (g k).home * 8 + (g k).away) := rfl
      generalize hasP (pairG g) (pairG g k) k = hp at *
      generalize pairG g k = pk at *
      generalize firstI (atG g (g k).home (g k).away) m 0 = fi at *
      generalize g k = x at *
      obtain ⟨x0, x1, x2, x3, x4⟩ := x
      obtain ⟨c0, c1, c2, c3, c4⟩ := game_cells hq
      simp only at c0 c1 c2 c3 c4 HPK
      have hsz := hb.size
      clear hc HV hq hok HNO HYES hSk
      obtain ⟨r, hr⟩ := bool_ex (gameP n ⟨x0, x1, x2, x3, x4⟩)
      have C := Lib.hid (fun w1 => gameOk_impl n x0 x1 x2 x3 x4 r w1 hr)
      have HR2 := Lib.hid hr
      clear hr
      have BX : Hid (BoxN (wr.alloc (.cells #[.int .i64 x0, .int .i64 x1, .int .i64 x2, .int .i64 x3, .int .i64 x4] 37)) wr.heap.size [.int .i64 x0, .int .i64 x1, .int .i64 x2, .int .i64 x3, .int .i64 x4]) := BoxN.made (Below.refl _ _) rfl
      have SN : Hid (SeenN 64 (wr.alloc (.cells #[.int .i64 x0, .int .i64 x1, .int .i64 x2, .int .i64 x3, .int .i64 x4] 37)) w.heap.size M) := hS.out.below ((Below.refl _ _).alloc (Nat.le_refl _) _)
      have HB2 : Hid (Below w.heap.size w (wr.alloc (.cells #[.int .i64 x0, .int .i64 x1, .int .i64 x2, .int .i64 x3, .int .i64 x4] 37))) := hb.alloc hsz _
      clear hS
      cases r with
      | false =>
        have hf : R = false := HN.out fun h => by have := HR2.out.2 h.1; cases this
        subst hf
        clear HN HS HR2 HP HE HSm HPK

        obtain ⟨S, HSd⟩ : ∃ S : World → Prop, S = fun w' => BoxN w' wr.heap.size [.int .i64 x0, .int .i64 x1, .int .i64 x2, .int .i64 x3, .int .i64 x4] ∧ SeenN 64 w' w.heap.size M ∧ Below w.heap.size w w' := ⟨_, rfl⟩
        have KS : Hid (∀ wa wb, S wa → Below wa.heap.size wa wb → S wb) := by subst HSd; exact fun wa wb ⟨bx, sn, hb⟩ b => ⟨bx.below b, sn.below b, hb.trans (b.mono hb.size)⟩
        have OS : Hid (∀ wa, S wa → BoxN wa wr.heap.size [.int .i64 x0, .int .i64 x1, .int .i64 x2, .int .i64 x3, .int .i64 x4] ∧ SeenN 64 wa w.heap.size M ∧ Below w.heap.size w wa) := by subst HSd; exact fun wa h => h
        have KS0 : Hid (S (wr.alloc (.cells #[.int .i64 x0, .int .i64 x1, .int .i64 x2, .int .i64 x3, .int .i64 x4] 37)).drew) := by subst HSd; exact ⟨BX.out.below (Below.refl _ _).drew, SN.out.below (Below.refl _ _).drew, HB2.out.drew⟩
        clear HSd
        go_wp2_with fail
        refine wp_region_held_drew (S := S) (by kernel_rfl) ?_ (fun hHeld => ?_)
        · exact KS0.out
        clear KS0 hb
        refine wpAnyH_take (i := 0) (v := ?_) rfl (by kernel_rfl) (by kernel_rfl) (by kernel_rfl) (fun _ _ _ h => h) (Or.inl ⟨by rfl, ?_⟩) (by assumption) ?_
        rotate_left
        · (intro wa hSw; obtain ⟨bx, sn, hb⟩ := OS.out _ hSw; have cb0 := bx.2 0 _ rfl; have cb1 := bx.2 1 _ rfl; have cb2 := bx.2 2 _ rfl; have cb3 := bx.2 3 _ rfl; have cb4 := bx.2 4 _ rfl; go_simp; try with_reducible rfl)
        simp only [Act.put, List.getElem_toArray, List.getElem_cons_zero, List.setIfInBounds_toArray, List.set_cons_zero, List.set_cons_succ]
        refine wpAnyH_take (i := 1) (v := ?_) rfl (by kernel_rfl) (by kernel_rfl) (by kernel_rfl) (fun _ _ _ h => h) (Or.inl ⟨by rfl, ?_⟩) (by assumption) ?_
        rotate_left
        · (intro wa hSw; obtain ⟨bx, sn, hb⟩ := OS.out _ hSw; have cb0 := bx.2 0 _ rfl; have cb1 := bx.2 1 _ rfl; have cb2 := bx.2 2 _ rfl; have cb3 := bx.2 3 _ rfl; have cb4 := bx.2 4 _ rfl; go_simp; try with_reducible rfl)
        simp only [Act.put, List.getElem_toArray, List.getElem_cons_zero, List.getElem_cons_succ, List.setIfInBounds_toArray, List.set_cons_zero, List.set_cons_succ]
        refine wpAnyH_ready (rs := [2]) (by kernel_rfl) (by simp) ?_
        refine AllReadyH.cons (o := _) rfl (fun K hK => ?_) AllReadyH.nil
        go_simp
        obtain ⟨bx, sn, hb⟩ := OS.out _ hHeld
        refine (C.out _).mono ?_
        rintro e w101 ⟨rfl, b101⟩
        clear bx sn hb
        (try go_wp2_with fail)
        refine hK.out _ _ ?_ (fun hHeld101 => ?_)
        · exact KS.out _ _ hHeld b101
        clear hK K
        refine wpAnyH_take (i := 3) (v := ?_) rfl (by kernel_rfl) (by kernel_rfl) (by kernel_rfl) (fun _ _ _ h => h) (Or.inl ⟨by rfl, ?_⟩) (by assumption) ?_
        rotate_left
        · (intro wa hSw; obtain ⟨bx, sn, hb⟩ := OS.out _ hSw; have cb0 := bx.2 0 _ rfl; have cb1 := bx.2 1 _ rfl; have cb2 := bx.2 2 _ rfl; have cb3 := bx.2 3 _ rfl; have cb4 := bx.2 4 _ rfl; go_simp; try with_reducible rfl)
        simp only [Act.put, List.getElem_toArray, List.getElem_cons_zero, List.getElem_cons_succ, List.setIfInBounds_toArray, List.set_cons_zero, List.set_cons_succ]
        refine wpAnyH_take (i := 4) (v := ?_) rfl (by kernel_rfl) (by kernel_rfl) (by kernel_rfl) (fun _ _ _ h => h) (Or.inl ⟨by rfl, ?_⟩) (by assumption) ?_
        rotate_left
        · (intro wa hSw; obtain ⟨bx, sn, hb⟩ := OS.out _ hSw; have cb0 := bx.2 0 _ rfl; have cb1 := bx.2 1 _ rfl; have cb2 := bx.2 2 _ rfl; have cb3 := bx.2 3 _ rfl; have cb4 := bx.2 4 _ rfl; go_simp; try with_reducible rfl)
        simp only [Act.put, List.getElem_toArray, List.getElem_cons_zero, List.getElem_cons_succ, List.setIfInBounds_toArray, List.set_cons_zero, List.set_cons_succ]
        refine wpAnyH_take (i := 5) (v := undef) rfl (by kernel_rfl) (by kernel_rfl) (by kernel_rfl) (fun _ _ _ h => h) (Or.inr ⟨by rfl, rfl⟩) (by assumption) ?_
        simp only [Act.put, List.getElem_toArray, List.getElem_cons_zero, List.getElem_cons_succ, List.setIfInBounds_toArray, List.set_cons_zero, List.set_cons_succ]
        refine wpAnyH_take (i := 6) (v := undef) rfl (by kernel_rfl) (by kernel_rfl) (by kernel_rfl) (fun _ _ _ h => h) (Or.inr ⟨by rfl, rfl⟩) (by assumption) ?_
        simp only [Act.put, List.getElem_toArray, List.getElem_cons_zero, List.getElem_cons_succ, List.setIfInBounds_toArray, List.set_cons_zero, List.set_cons_succ]
        refine wpAnyH_take (i := 7) (v := undef) rfl (by kernel_rfl) (by kernel_rfl) (by kernel_rfl) (fun _ _ _ h => h) (Or.inr ⟨by rfl, rfl⟩) (by assumption) ?_
        simp only [Act.put, List.getElem_toArray, List.getElem_cons_zero, List.getElem_cons_succ, List.setIfInBounds_toArray, List.set_cons_zero, List.set_cons_succ]
        refine wpAnyH_take (i := 8) (v := undef) rfl (by kernel_rfl) (by kernel_rfl) (by kernel_rfl) (fun _ _ _ h => h) (Or.inr ⟨by rfl, rfl⟩) (by assumption) ?_
        simp only [Act.put, List.getElem_toArray, List.getElem_cons_zero, List.getElem_cons_succ, List.setIfInBounds_toArray, List.set_cons_zero, List.set_cons_succ]
        refine wpAnyH_take (i := 9) (v := undef) rfl (by kernel_rfl) (by kernel_rfl) (by kernel_rfl) (fun _ _ _ h => h) (Or.inr ⟨by rfl, rfl⟩) (by assumption) ?_
        simp only [Act.put, List.getElem_toArray, List.getElem_cons_zero, List.getElem_cons_succ, List.setIfInBounds_toArray, List.set_cons_zero, List.set_cons_succ]
        refine wpAnyH_take (i := 10) (v := undef) rfl (by kernel_rfl) (by kernel_rfl) (by kernel_rfl) (fun _ _ _ h => h) (Or.inr ⟨by rfl, rfl⟩) (by assumption) ?_
        simp only [Act.put, List.getElem_toArray, List.getElem_cons_zero, List.getElem_cons_succ, List.setIfInBounds_toArray, List.set_cons_zero, List.set_cons_succ]
        refine wpAnyH_take (i := 11) (v := undef) rfl (by kernel_rfl) (by kernel_rfl) (by kernel_rfl) (fun _ _ _ h => h) (Or.inr ⟨by rfl, rfl⟩) (by assumption) ?_
        simp only [Act.put, List.getElem_toArray, List.getElem_cons_zero, List.getElem_cons_succ, List.setIfInBounds_toArray, List.set_cons_zero, List.set_cons_succ]
        refine wpAnyH_take (i := 12) (v := ?_) rfl (by kernel_rfl) (by kernel_rfl) (by kernel_rfl) (fun _ _ _ h => h) (Or.inl ⟨by rfl, ?_⟩) (by assumption) ?_
        rotate_left
        · (intro wa hSw; obtain ⟨bx, sn, hb⟩ := OS.out _ hSw; have cb0 := bx.2 0 _ rfl; have cb1 := bx.2 1 _ rfl; have cb2 := bx.2 2 _ rfl; have cb3 := bx.2 3 _ rfl; have cb4 := bx.2 4 _ rfl; go_simp; try with_reducible rfl)
        simp only [Act.put, List.getElem_toArray, List.getElem_cons_zero, List.getElem_cons_succ, List.setIfInBounds_toArray, List.set_cons_zero, List.set_cons_succ]
        refine wpAnyH_done (by kernel_rfl) ?_ _
        obtain ⟨bx, sn, hb⟩ := OS.out _ hHeld101
        clear KS OS hHeld hHeld101
        (try go_wp2)
        go_ret
        exact ⟨rfl, hb⟩
      | true =>
        have hgp := HR2.out.1 rfl
        obtain ⟨⟨n1, n2⟩, ⟨q1, q2⟩, ⟨q3, q4⟩, _⟩ := hgp
        simp only at q1 q2 q3 q4
        obtain ⟨p, rfl⟩ : ∃ p : Nat, x0 = p := ⟨x0.toNat, by omega⟩
        obtain ⟨q, rfl⟩ : ∃ q : Nat, x1 = q := ⟨x1.toNat, by omega⟩
        have p8 : p < 8 := by omega
        have q8 : q < 8 := by omega
        have p8' : (p : Int) < 8 := by omega
        have q8' : (q : Int) < 8 := by omega
        have hpk : pk = ((p * 8 + q : Nat) : Int) := by rw [HPK.out]; simp
        have HSv := Lib.hid (HSm.out _ (by omega) hpk)
        have HEv := Lib.hid (HE.out _ hpk)
        have HPv := Lib.hid (HP.out (HR2.out.1 rfl))
        have HGP := Lib.hid (HR2.out.1 rfl)
        clear HSm HE HP HPK hpk HR2 n1 n2 q1 q2 q3 q4
        obtain ⟨s, HSV⟩ : ∃ s, Hid (M (p * 8 + q) = s) := ⟨_, rfl⟩
        cases s with
        | true =>
          have hf : R = false := HN.out fun h => (HPv.out.1 h.2) (HSv.out.1 HSV.out)
          subst hf
          clear HN HS HEv HPv HSv HGP

          obtain ⟨S, HSd⟩ : ∃ S : World → Prop, S = fun w' => BoxN w' wr.heap.size [.int .i64 (p : Int), .int .i64 (q : Int), .int .i64 x2, .int .i64 x3, .int .i64 x4] ∧ SeenN 64 w' w.heap.size M ∧ Below w.heap.size w w' := ⟨_, rfl⟩
          have KS : Hid (∀ wa wb, S wa → Below wa.heap.size wa wb → S wb) := by subst HSd; exact fun wa wb ⟨bx, sn, hb⟩ b => ⟨bx.below b, sn.below b, hb.trans (b.mono hb.size)⟩
          have OS : Hid (∀ wa, S wa → BoxN wa wr.heap.size [.int .i64 (p : Int), .int .i64 (q : Int), .int .i64 x2, .int .i64 x3, .int .i64 x4] ∧ SeenN 64 wa w.heap.size M ∧ Below w.heap.size w wa) := by subst HSd; exact fun wa h => h
          have KS0 : Hid (S (wr.alloc (.cells #[.int .i64 (p : Int), .int .i64 (q : Int), .int .i64 x2, .int .i64 x3, .int .i64 x4] 37)).drew) := by subst HSd; exact ⟨BX.out.below (Below.refl _ _).drew, SN.out.below (Below.refl _ _).drew, HB2.out.drew⟩
          clear HSd
          go_wp2_with fail
          refine wp_region_held_drew (S := S) (by kernel_rfl) ?_ (fun hHeld => ?_)
          · exact KS0.out
          clear KS0 hb
          refine wpAnyH_take (i := 0) (v := ?_) rfl (by kernel_rfl) (by kernel_rfl) (by kernel_rfl) (fun _ _ _ h => h) (Or.inl ⟨by rfl, ?_⟩) (by assumption) ?_
          rotate_left
          · (intro wa hSw; obtain ⟨bx, sn, hb⟩ := OS.out _ hSw; have cb0 := bx.2 0 _ rfl; have cb1 := bx.2 1 _ rfl; have cb2 := bx.2 2 _ rfl; have cb3 := bx.2 3 _ rfl; have cb4 := bx.2 4 _ rfl; have cs := (sn.2 (p * 8 + q) (by omega)).1; rw [HSV.out] at cs; go_simp; try with_reducible rfl)
          simp only [Act.put, List.getElem_toArray, List.getElem_cons_zero, List.setIfInBounds_toArray, List.set_cons_zero, List.set_cons_succ]
          refine wpAnyH_take (i := 1) (v := ?_) rfl (by kernel_rfl) (by kernel_rfl) (by kernel_rfl) (fun _ _ _ h => h) (Or.inl ⟨by rfl, ?_⟩) (by assumption) ?_
          rotate_left
          · (intro wa hSw; obtain ⟨bx, sn, hb⟩ := OS.out _ hSw; have cb0 := bx.2 0 _ rfl; have cb1 := bx.2 1 _ rfl; have cb2 := bx.2 2 _ rfl; have cb3 := bx.2 3 _ rfl; have cb4 := bx.2 4 _ rfl; have cs := (sn.2 (p * 8 + q) (by omega)).1; rw [HSV.out] at cs; go_simp; try with_reducible rfl)
          simp only [Act.put, List.getElem_toArray, List.getElem_cons_zero, List.getElem_cons_succ, List.setIfInBounds_toArray, List.set_cons_zero, List.set_cons_succ]
          refine wpAnyH_ready (rs := [2]) (by kernel_rfl) (by simp) ?_
          refine AllReadyH.cons (o := _) rfl (fun K hK => ?_) AllReadyH.nil
          go_simp
          obtain ⟨bx, sn, hb⟩ := OS.out _ hHeld
          refine (C.out _).mono ?_
          rintro e w101 ⟨rfl, b101⟩
          clear bx sn hb
          (try go_wp2_with fail)
          refine hK.out _ _ ?_ (fun hHeld101 => ?_)
          · exact KS.out _ _ hHeld b101
          clear hK K
          refine wpAnyH_take (i := 3) (v := ?_) rfl (by kernel_rfl) (by kernel_rfl) (by kernel_rfl) (fun _ _ _ h => h) (Or.inl ⟨by rfl, ?_⟩) (by assumption) ?_
          rotate_left
          · (intro wa hSw; obtain ⟨bx, sn, hb⟩ := OS.out _ hSw; have cb0 := bx.2 0 _ rfl; have cb1 := bx.2 1 _ rfl; have cb2 := bx.2 2 _ rfl; have cb3 := bx.2 3 _ rfl; have cb4 := bx.2 4 _ rfl; have cs := (sn.2 (p * 8 + q) (by omega)).1; rw [HSV.out] at cs; go_simp; try with_reducible rfl)
          simp only [Act.put, List.getElem_toArray, List.getElem_cons_zero, List.getElem_cons_succ, List.setIfInBounds_toArray, List.set_cons_zero, List.set_cons_succ]
          refine wpAnyH_take (i := 4) (v := ?_) rfl (by kernel_rfl) (by kernel_rfl) (by kernel_rfl) (fun _ _ _ h => h) (Or.inl ⟨by rfl, ?_⟩) (by assumption) ?_
          rotate_left
          · (intro wa hSw; obtain ⟨bx, sn, hb⟩ := OS.out _ hSw; have cb0 := bx.2 0 _ rfl; have cb1 := bx.2 1 _ rfl; have cb2 := bx.2 2 _ rfl; have cb3 := bx.2 3 _ rfl; have cb4 := bx.2 4 _ rfl; have cs := (sn.2 (p * 8 + q) (by omega)).1; rw [HSV.out] at cs; go_simp; try with_reducible rfl)
          simp only [Act.put, List.getElem_toArray, List.getElem_cons_zero, List.getElem_cons_succ, List.setIfInBounds_toArray, List.set_cons_zero, List.set_cons_succ]
          refine wpAnyH_take (i := 5) (v := ?_) rfl (by kernel_rfl) (by kernel_rfl) (by kernel_rfl) (fun _ _ _ h => h) (Or.inl ⟨by rfl, ?_⟩) (by assumption) ?_
          rotate_left
          · (intro wa hSw; obtain ⟨bx, sn, hb⟩ := OS.out _ hSw; have cb0 := bx.2 0 _ rfl; have cb1 := bx.2 1 _ rfl; have cb2 := bx.2 2 _ rfl; have cb3 := bx.2 3 _ rfl; have cb4 := bx.2 4 _ rfl; have cs := (sn.2 (p * 8 + q) (by omega)).1; rw [HSV.out] at cs; go_simp; try with_reducible rfl)
          simp only [Act.put, List.getElem_toArray, List.getElem_cons_zero, List.getElem_cons_succ, List.setIfInBounds_toArray, List.set_cons_zero, List.set_cons_succ]
          refine wpAnyH_take (i := 6) (v := ?_) rfl (by kernel_rfl) (by kernel_rfl) (by kernel_rfl) (fun _ _ _ h => h) (Or.inl ⟨by rfl, ?_⟩) (by assumption) ?_
          rotate_left
          · (intro wa hSw; obtain ⟨bx, sn, hb⟩ := OS.out _ hSw; have cb0 := bx.2 0 _ rfl; have cb1 := bx.2 1 _ rfl; have cb2 := bx.2 2 _ rfl; have cb3 := bx.2 3 _ rfl; have cb4 := bx.2 4 _ rfl; have cs := (sn.2 (p * 8 + q) (by omega)).1; rw [HSV.out] at cs; go_simp; try with_reducible rfl)
          simp only [Act.put, List.getElem_toArray, List.getElem_cons_zero, List.getElem_cons_succ, List.setIfInBounds_toArray, List.set_cons_zero, List.set_cons_succ]
          refine wpAnyH_take (i := 7) (v := ?_) rfl (by kernel_rfl) (by kernel_rfl) (by kernel_rfl) (fun _ _ _ h => h) (Or.inl ⟨by rfl, ?_⟩) (by assumption) ?_
          rotate_left
          · (intro wa hSw; obtain ⟨bx, sn, hb⟩ := OS.out _ hSw; have cb0 := bx.2 0 _ rfl; have cb1 := bx.2 1 _ rfl; have cb2 := bx.2 2 _ rfl; have cb3 := bx.2 3 _ rfl; have cb4 := bx.2 4 _ rfl; have cs := (sn.2 (p * 8 + q) (by omega)).1; rw [HSV.out] at cs; go_simp; try with_reducible rfl)
          simp only [Act.put, List.getElem_toArray, List.getElem_cons_zero, List.getElem_cons_succ, List.setIfInBounds_toArray, List.set_cons_zero, List.set_cons_succ]
          refine wpAnyH_take (i := 8) (v := ?_) rfl (by kernel_rfl) (by kernel_rfl) (by kernel_rfl) (fun _ _ _ h => h) (Or.inl ⟨by rfl, ?_⟩) (by assumption) ?_
          rotate_left
          · (intro wa hSw; obtain ⟨bx, sn, hb⟩ := OS.out _ hSw; have cb0 := bx.2 0 _ rfl; have cb1 := bx.2 1 _ rfl; have cb2 := bx.2 2 _ rfl; have cb3 := bx.2 3 _ rfl; have cb4 := bx.2 4 _ rfl; have cs := (sn.2 (p * 8 + q) (by omega)).1; rw [HSV.out] at cs; go_simp; try with_reducible rfl)
          simp only [Act.put, List.getElem_toArray, List.getElem_cons_zero, List.getElem_cons_succ, List.setIfInBounds_toArray, List.set_cons_zero, List.set_cons_succ]
          refine wpAnyH_take (i := 9) (v := ?_) rfl (by kernel_rfl) (by kernel_rfl) (by kernel_rfl) (fun _ _ _ h => h) (Or.inl ⟨by rfl, ?_⟩) (by assumption) ?_
          rotate_left
          · (intro wa hSw; obtain ⟨bx, sn, hb⟩ := OS.out _ hSw; have cb0 := bx.2 0 _ rfl; have cb1 := bx.2 1 _ rfl; have cb2 := bx.2 2 _ rfl; have cb3 := bx.2 3 _ rfl; have cb4 := bx.2 4 _ rfl; have cs := (sn.2 (p * 8 + q) (by omega)).1; rw [HSV.out] at cs; go_simp; try with_reducible rfl)
          simp only [Act.put, List.getElem_toArray, List.getElem_cons_zero, List.getElem_cons_succ, List.setIfInBounds_toArray, List.set_cons_zero, List.set_cons_succ]
          refine wpAnyH_take (i := 10) (v := ?_) rfl (by kernel_rfl) (by kernel_rfl) (by kernel_rfl) (fun _ _ _ h => h) (Or.inl ⟨by rfl, ?_⟩) (by assumption) ?_
          rotate_left
          · (intro wa hSw; obtain ⟨bx, sn, hb⟩ := OS.out _ hSw; have cb0 := bx.2 0 _ rfl; have cb1 := bx.2 1 _ rfl; have cb2 := bx.2 2 _ rfl; have cb3 := bx.2 3 _ rfl; have cb4 := bx.2 4 _ rfl; have cs := (sn.2 (p * 8 + q) (by omega)).1; rw [HSV.out] at cs; go_simp; try with_reducible rfl)
          simp only [Act.put, List.getElem_toArray, List.getElem_cons_zero, List.getElem_cons_succ, List.setIfInBounds_toArray, List.set_cons_zero, List.set_cons_succ]
          refine wpAnyH_take (i := 11) (v := ?_) rfl (by kernel_rfl) (by kernel_rfl) (by kernel_rfl) (fun _ _ _ h => h) (Or.inl ⟨by rfl, ?_⟩) (by assumption) ?_
          rotate_left
          · (intro wa hSw; obtain ⟨bx, sn, hb⟩ := OS.out _ hSw; have cb0 := bx.2 0 _ rfl; have cb1 := bx.2 1 _ rfl; have cb2 := bx.2 2 _ rfl; have cb3 := bx.2 3 _ rfl; have cb4 := bx.2 4 _ rfl; have cs := (sn.2 (p * 8 + q) (by omega)).1; rw [HSV.out] at cs; go_simp; try with_reducible rfl)
          simp only [Act.put, List.getElem_toArray, List.getElem_cons_zero, List.getElem_cons_succ, List.setIfInBounds_toArray, List.set_cons_zero, List.set_cons_succ]
          refine wpAnyH_take (i := 12) (v := ?_) rfl (by kernel_rfl) (by kernel_rfl) (by kernel_rfl) (fun _ _ _ h => h) (Or.inl ⟨by rfl, ?_⟩) (by assumption) ?_
          rotate_left
          · (intro wa hSw; obtain ⟨bx, sn, hb⟩ := OS.out _ hSw; have cb0 := bx.2 0 _ rfl; have cb1 := bx.2 1 _ rfl; have cb2 := bx.2 2 _ rfl; have cb3 := bx.2 3 _ rfl; have cb4 := bx.2 4 _ rfl; have cs := (sn.2 (p * 8 + q) (by omega)).1; rw [HSV.out] at cs; go_simp; try with_reducible rfl)
          simp only [Act.put, List.getElem_toArray, List.getElem_cons_zero, List.getElem_cons_succ, List.setIfInBounds_toArray, List.set_cons_zero, List.set_cons_succ]
          refine wpAnyH_done (by kernel_rfl) ?_ _
          obtain ⟨bx, sn, hb⟩ := OS.out _ hHeld101
          clear KS OS hHeld hHeld101
          (try go_wp2)
          go_ret
          exact ⟨rfl, hb⟩
        | false =>
          have HX := Lib.hid (HS.out ⟨HGP.out, HPv.out.2 fun h => by have := HSv.out.2 h; rw [HSV.out] at this; cases this⟩)
          clear HN HS HPv HSv HGP

          obtain ⟨S, HSd⟩ : ∃ S : World → Prop, S = fun w' => BoxN w' wr.heap.size [.int .i64 (p : Int), .int .i64 (q : Int), .int .i64 x2, .int .i64 x3, .int .i64 x4] ∧ SeenN 64 w' w.heap.size M ∧ Below w.heap.size w w' := ⟨_, rfl⟩
          have KS : Hid (∀ wa wb, S wa → Below wa.heap.size wa wb → S wb) := by subst HSd; exact fun wa wb ⟨bx, sn, hb⟩ b => ⟨bx.below b, sn.below b, hb.trans (b.mono hb.size)⟩
          have OS : Hid (∀ wa, S wa → BoxN wa wr.heap.size [.int .i64 (p : Int), .int .i64 (q : Int), .int .i64 x2, .int .i64 x3, .int .i64 x4] ∧ SeenN 64 wa w.heap.size M ∧ Below w.heap.size w wa) := by subst HSd; exact fun wa h => h
          have KS0 : Hid (S (wr.alloc (.cells #[.int .i64 (p : Int), .int .i64 (q : Int), .int .i64 x2, .int .i64 x3, .int .i64 x4] 37)).drew) := by subst HSd; exact ⟨BX.out.below (Below.refl _ _).drew, SN.out.below (Below.refl _ _).drew, HB2.out.drew⟩
          clear HSd
          go_wp2_with fail
          refine wp_region_held_drew (S := S) (by kernel_rfl) ?_ (fun hHeld => ?_)
          · exact KS0.out
          clear KS0 hb
          refine wpAnyH_take (i := 0) (v := ?_) rfl (by kernel_rfl) (by kernel_rfl) (by kernel_rfl) (fun _ _ _ h => h) (Or.inl ⟨by rfl, ?_⟩) (by assumption) ?_
          rotate_left
          · (intro wa hSw; obtain ⟨bx, sn, hb⟩ := OS.out _ hSw; have cb0 := bx.2 0 _ rfl; have cb1 := bx.2 1 _ rfl; have cb2 := bx.2 2 _ rfl; have cb3 := bx.2 3 _ rfl; have cb4 := bx.2 4 _ rfl; have cs := (sn.2 (p * 8 + q) (by omega)).1; rw [HSV.out] at cs; go_simp; try with_reducible rfl)
          simp only [Act.put, List.getElem_toArray, List.getElem_cons_zero, List.setIfInBounds_toArray, List.set_cons_zero, List.set_cons_succ]
          refine wpAnyH_take (i := 1) (v := ?_) rfl (by kernel_rfl) (by kernel_rfl) (by kernel_rfl) (fun _ _ _ h => h) (Or.inl ⟨by rfl, ?_⟩) (by assumption) ?_
          rotate_left
          · (intro wa hSw; obtain ⟨bx, sn, hb⟩ := OS.out _ hSw; have cb0 := bx.2 0 _ rfl; have cb1 := bx.2 1 _ rfl; have cb2 := bx.2 2 _ rfl; have cb3 := bx.2 3 _ rfl; have cb4 := bx.2 4 _ rfl; have cs := (sn.2 (p * 8 + q) (by omega)).1; rw [HSV.out] at cs; go_simp; try with_reducible rfl)
          simp only [Act.put, List.getElem_toArray, List.getElem_cons_zero, List.getElem_cons_succ, List.setIfInBounds_toArray, List.set_cons_zero, List.set_cons_succ]
          refine wpAnyH_ready (rs := [2]) (by kernel_rfl) (by simp) ?_
          refine AllReadyH.cons (o := _) rfl (fun K hK => ?_) AllReadyH.nil
          go_simp
          obtain ⟨bx, sn, hb⟩ := OS.out _ hHeld
          refine (C.out _).mono ?_
          rintro e w101 ⟨rfl, b101⟩
          clear bx sn hb
          (try go_wp2_with fail)
          refine hK.out _ _ ?_ (fun hHeld101 => ?_)
          · exact KS.out _ _ hHeld b101
          clear hK K
          refine wpAnyH_take (i := 3) (v := ?_) rfl (by kernel_rfl) (by kernel_rfl) (by kernel_rfl) (fun _ _ _ h => h) (Or.inl ⟨by rfl, ?_⟩) (by assumption) ?_
          rotate_left
          · (intro wa hSw; obtain ⟨bx, sn, hb⟩ := OS.out _ hSw; have cb0 := bx.2 0 _ rfl; have cb1 := bx.2 1 _ rfl; have cb2 := bx.2 2 _ rfl; have cb3 := bx.2 3 _ rfl; have cb4 := bx.2 4 _ rfl; have cs := (sn.2 (p * 8 + q) (by omega)).1; rw [HSV.out] at cs; go_simp; try with_reducible rfl)
          simp only [Act.put, List.getElem_toArray, List.getElem_cons_zero, List.getElem_cons_succ, List.setIfInBounds_toArray, List.set_cons_zero, List.set_cons_succ]
          refine wpAnyH_take (i := 4) (v := ?_) rfl (by kernel_rfl) (by kernel_rfl) (by kernel_rfl) (fun _ _ _ h => h) (Or.inl ⟨by rfl, ?_⟩) (by assumption) ?_
          rotate_left
          · (intro wa hSw; obtain ⟨bx, sn, hb⟩ := OS.out _ hSw; have cb0 := bx.2 0 _ rfl; have cb1 := bx.2 1 _ rfl; have cb2 := bx.2 2 _ rfl; have cb3 := bx.2 3 _ rfl; have cb4 := bx.2 4 _ rfl; have cs := (sn.2 (p * 8 + q) (by omega)).1; rw [HSV.out] at cs; go_simp; try with_reducible rfl)
          simp only [Act.put, List.getElem_toArray, List.getElem_cons_zero, List.getElem_cons_succ, List.setIfInBounds_toArray, List.set_cons_zero, List.set_cons_succ]
          refine wpAnyH_take (i := 5) (v := ?_) rfl (by kernel_rfl) (by kernel_rfl) (by kernel_rfl) (fun _ _ _ h => h) (Or.inl ⟨by rfl, ?_⟩) (by assumption) ?_
          rotate_left
          · (intro wa hSw; obtain ⟨bx, sn, hb⟩ := OS.out _ hSw; have cb0 := bx.2 0 _ rfl; have cb1 := bx.2 1 _ rfl; have cb2 := bx.2 2 _ rfl; have cb3 := bx.2 3 _ rfl; have cb4 := bx.2 4 _ rfl; have cs := (sn.2 (p * 8 + q) (by omega)).1; rw [HSV.out] at cs; go_simp; try with_reducible rfl)
          simp only [Act.put, List.getElem_toArray, List.getElem_cons_zero, List.getElem_cons_succ, List.setIfInBounds_toArray, List.set_cons_zero, List.set_cons_succ]
          refine wpAnyH_take (i := 6) (v := ?_) rfl (by kernel_rfl) (by kernel_rfl) (by kernel_rfl) (fun _ _ _ h => h) (Or.inl ⟨by rfl, ?_⟩) (by assumption) ?_
          rotate_left
          · (intro wa hSw; obtain ⟨bx, sn, hb⟩ := OS.out _ hSw; have cb0 := bx.2 0 _ rfl; have cb1 := bx.2 1 _ rfl; have cb2 := bx.2 2 _ rfl; have cb3 := bx.2 3 _ rfl; have cb4 := bx.2 4 _ rfl; have cs := (sn.2 (p * 8 + q) (by omega)).1; rw [HSV.out] at cs; go_simp; try with_reducible rfl)
          simp only [Act.put, List.getElem_toArray, List.getElem_cons_zero, List.getElem_cons_succ, List.setIfInBounds_toArray, List.set_cons_zero, List.set_cons_succ]
          refine wpAnyH_take (i := 7) (v := ?_) rfl (by kernel_rfl) (by kernel_rfl) (by kernel_rfl) (fun _ _ _ h => h) (Or.inl ⟨by rfl, ?_⟩) (by assumption) ?_
          rotate_left
          · (intro wa hSw; obtain ⟨bx, sn, hb⟩ := OS.out _ hSw; have cb0 := bx.2 0 _ rfl; have cb1 := bx.2 1 _ rfl; have cb2 := bx.2 2 _ rfl; have cb3 := bx.2 3 _ rfl; have cb4 := bx.2 4 _ rfl; have cs := (sn.2 (p * 8 + q) (by omega)).1; rw [HSV.out] at cs; go_simp; try with_reducible rfl)
          simp only [Act.put, List.getElem_toArray, List.getElem_cons_zero, List.getElem_cons_succ, List.setIfInBounds_toArray, List.set_cons_zero, List.set_cons_succ]
          refine wpAnyH_take (i := 8) (v := ?_) rfl (by kernel_rfl) (by kernel_rfl) (by kernel_rfl) (fun _ _ _ h => h) (Or.inl ⟨by rfl, ?_⟩) (by assumption) ?_
          rotate_left
          · (intro wa hSw; obtain ⟨bx, sn, hb⟩ := OS.out _ hSw; have cb0 := bx.2 0 _ rfl; have cb1 := bx.2 1 _ rfl; have cb2 := bx.2 2 _ rfl; have cb3 := bx.2 3 _ rfl; have cb4 := bx.2 4 _ rfl; have cs := (sn.2 (p * 8 + q) (by omega)).1; rw [HSV.out] at cs; go_simp; try with_reducible rfl)
          simp only [Act.put, List.getElem_toArray, List.getElem_cons_zero, List.getElem_cons_succ, List.setIfInBounds_toArray, List.set_cons_zero, List.set_cons_succ]
          refine wpAnyH_take (i := 9) (v := ?_) rfl (by kernel_rfl) (by kernel_rfl) (by kernel_rfl) (fun _ _ _ h => h) (Or.inl ⟨by rfl, ?_⟩) (by assumption) ?_
          rotate_left
          · (intro wa hSw; obtain ⟨bx, sn, hb⟩ := OS.out _ hSw; have cb0 := bx.2 0 _ rfl; have cb1 := bx.2 1 _ rfl; have cb2 := bx.2 2 _ rfl; have cb3 := bx.2 3 _ rfl; have cb4 := bx.2 4 _ rfl; have cs := (sn.2 (p * 8 + q) (by omega)).1; rw [HSV.out] at cs; go_simp; try with_reducible rfl)
          simp only [Act.put, List.getElem_toArray, List.getElem_cons_zero, List.getElem_cons_succ, List.setIfInBounds_toArray, List.set_cons_zero, List.set_cons_succ]
          refine wpAnyH_take (i := 10) (v := ?_) rfl (by kernel_rfl) (by kernel_rfl) (by kernel_rfl) (fun _ _ _ h => h) (Or.inl ⟨by rfl, ?_⟩) (by assumption) ?_
          rotate_left
          · (intro wa hSw; obtain ⟨bx, sn, hb⟩ := OS.out _ hSw; have cb0 := bx.2 0 _ rfl; have cb1 := bx.2 1 _ rfl; have cb2 := bx.2 2 _ rfl; have cb3 := bx.2 3 _ rfl; have cb4 := bx.2 4 _ rfl; have cs := (sn.2 (p * 8 + q) (by omega)).1; rw [HSV.out] at cs; go_simp; try with_reducible rfl)
          simp only [Act.put, List.getElem_toArray, List.getElem_cons_zero, List.getElem_cons_succ, List.setIfInBounds_toArray, List.set_cons_zero, List.set_cons_succ]
          refine wpAnyH_take (i := 11) (v := ?_) rfl (by kernel_rfl) (by kernel_rfl) (by kernel_rfl) (fun _ _ _ h => h) (Or.inl ⟨by rfl, ?_⟩) (by assumption) ?_
          rotate_left
          · (intro wa hSw; obtain ⟨bx, sn, hb⟩ := OS.out _ hSw; have cb0 := bx.2 0 _ rfl; have cb1 := bx.2 1 _ rfl; have cb2 := bx.2 2 _ rfl; have cb3 := bx.2 3 _ rfl; have cb4 := bx.2 4 _ rfl; have cs := (sn.2 (p * 8 + q) (by omega)).1; rw [HSV.out] at cs; go_simp; try with_reducible rfl)
          simp only [Act.put, List.getElem_toArray, List.getElem_cons_zero, List.getElem_cons_succ, List.setIfInBounds_toArray, List.set_cons_zero, List.set_cons_succ]
          refine wpAnyH_take (i := 12) (v := ?_) rfl (by kernel_rfl) (by kernel_rfl) (by kernel_rfl) (fun _ _ _ h => h) (Or.inl ⟨by rfl, ?_⟩) (by assumption) ?_
          rotate_left
          · (intro wa hSw; obtain ⟨bx, sn, hb⟩ := OS.out _ hSw; have cb0 := bx.2 0 _ rfl; have cb1 := bx.2 1 _ rfl; have cb2 := bx.2 2 _ rfl; have cb3 := bx.2 3 _ rfl; have cb4 := bx.2 4 _ rfl; have cs := (sn.2 (p * 8 + q) (by omega)).1; rw [HSV.out] at cs; go_simp; try with_reducible rfl)
          simp only [Act.put, List.getElem_toArray, List.getElem_cons_zero, List.getElem_cons_succ, List.setIfInBounds_toArray, List.set_cons_zero, List.set_cons_succ]
          refine wpAnyH_done (by kernel_rfl) ?_ _
          obtain ⟨bx, sn, hb⟩ := OS.out _ hHeld101
          clear KS OS hHeld hHeld101
          have HX2 := Lib.hid bx
          have cb0 := bx.2 0 _ rfl
          have cb1 := bx.2 1 _ rfl
          have SN2 := Lib.hid (sn.set (p * 8 + q) (by omega))
          have hl := sn.1
          obtain ⟨cs, fz⟩ := sn.2 (p * 8 + q) (by omega)
          clear bx sn
          go_wp2_with fail
          go_region
          all_goals (try go_wp2)
          all_goals go_roundw
          case rel => exact ⟨k + 1, _, by omega, by go_num, HX.out, SN2.out, HEv.out, (hb.setCell (p := ⟨w.heap.size, p * 8 + q, none⟩) (Nat.le_refl _) _).drew⟩
          case measure => simp [intOf]; omega
    · obtain rfl : k = m := by omega
      obtain rfl := HYES.out hok.out
      clear HNO HYES hok hS hSk
      go_wp2
      go_ret
      exact ⟨rfl, hb⟩
end Go.Proofs.Ytojkonhhaamodaa
set_option linter.unusedVariables false
namespace Go.Proofs.Ytojkonhhaamodaa
open Go.RowKit

theorem serialOf_impl (v : Value) (n : Nat) (g : Nat → NoteD) (gm : Int) (w : World) (hv : NoteRow w v n g) :
    Calls Try.prog 11 #[v, .int .i64 gm] w fun e w' => e = .returned (.int .i64 (serialN g gm n)) ∧ Below w.heap.size w w' := by
  obtain ⟨aa, cap, rfl, hn, hc⟩ := hv.form
  have HV := Lib.hid hc
  clear hc hv
  have h0 : serialN g gm 0 = 0 := rfl
  go_enter Try.func11, Try.ntmps11
  go_wp2
  go_loopw [5, 10] (fun s i wr => ∃ k : Nat, k ≤ n ∧ i = .int .i64 k ∧ (∃ m : Int, s = .int .i64 m ∧ Hid (m = serialN g gm k)) ∧ Below w.heap.size w wr) (fun _ i _ => n - (intOf i).toNat)
  case atStart => exact ⟨0, Nat.zero_le _, rfl, ⟨0, rfl, rfl⟩, Below.refl _ _⟩
  case round =>
    obtain ⟨k, hk, rfl, ⟨m, rfl, hm⟩, hb⟩ := hrel
    by_cases hlt : k < n
    · obtain ⟨b, off, rfl, hcap, hc⟩ := HV.out (by omega)
      have hq := (hc k hlt).belowB hb (hc k hlt).1
      have HS : Hid (serialN g gm (k + 1) = if (g k).game = gm ∧ serialN g gm k < (g k).serial then (g k).serial else serialN g gm k) := rfl
      generalize hx : g k = x at *
      obtain ⟨c0, c1, c2, c3, c4, c5, c6⟩ := note_cells hq
      have hsz := hb.size
      have hb2 := hb.alloc hsz (.cells #[.int .i64 x.serial, .int .i64 x.game, .int .i64 x.res.home, .int .i64 x.res.away, .int .i64 x.res.hg, .int .i64 x.res.ag, .int .i64 x.res.st] 39)
      clear hc HV hq hx h0
      by_cases h1 : x.game = gm
      · have g1 : (x.game == gm) = true := by simpa using h1
        by_cases h2 : m < x.serial
        · have g2 : decide (m < x.serial) = true := decide_eq_true h2
          have g3 : decide (m ≤ x.serial) = true := decide_eq_true (by omega)
          have HX := Lib.hid (show x.serial = serialN g gm (k + 1) by rw [HS.out, if_pos ⟨h1, by rw [← hm.out]; exact h2⟩])
          have hmax : max m x.serial = x.serial := by omega
          have H1 := Lib.hid h1
          have H2 := Lib.hid h2
          clear HS hm h1 h2
          go_wp2
          go_roundw
          case rel => exact ⟨k + 1, by omega, by go_num, ⟨_, rfl, Lib.hid (by first | exact HX.out | (rw [if_pos H2.out]; exact HX.out))⟩, hb2⟩
          case measure => simp [intOf]; omega
        · have g2 : decide (m < x.serial) = false := decide_eq_false h2
          have HX := Lib.hid (show m = serialN g gm (k + 1) by rw [HS.out, if_neg (fun h => h2 (by rw [hm.out]; exact h.2))]; exact hm.out)
          have hmax : max m x.serial = m := by omega
          have H1 := Lib.hid h1
          clear HS hm h1 h2
          go_wp2
          go_roundw
          case rel => exact ⟨k + 1, by omega, by go_num, ⟨_, rfl, HX.out⟩, hb2⟩
          case measure => simp [intOf]; omega
      · have g1 : (x.game == gm) = false := beq_eq_false_iff_ne.2 h1
        have HX := Lib.hid (show m = serialN g gm (k + 1) by rw [HS.out, if_neg (fun h => h1 h.1)]; exact hm.out)
        clear HS hm h1
        go_wp2
        go_roundw
        case rel => exact ⟨k + 1, by omega, by go_num, ⟨_, rfl, HX.out⟩, hb2⟩
        case measure => simp [intOf]; omega
    · obtain rfl : k = n := by omega
      obtain rfl := hm.out
      clear h0
      go_wp2
      go_ret
      exact ⟨rfl, hb⟩
set_option maxHeartbeats 1000000 in
theorem upTo_impl (v : Value) (n : Nat) (g : Nat → NoteD) (s : Int) (w : World) (hv : NoteRow w v n g) (hn6 : n ≤ 1048576) :
    Calls Try.prog 13 #[v, .int .i64 s] w (NotesL w (upL g s n)) := by
  obtain ⟨i0, hi, hz0, hz1, hz2⟩ := info_parts Try.infoNote
  obtain ⟨aa, cap, rfl, hn, hc⟩ := hv.form
  have HV := Lib.hid hc
  clear hc hv
  go_enter Try.func13, Try.ntmps13
  go_wp2
  go_loopw [5, 10] (fun out i wr => ∃ (k : Nat) (L : List NoteD), k ≤ n ∧ i = .int .i64 k ∧ Hid (L = upL g s k) ∧ L.length ≤ k ∧ Hid (wr.ownsRow w.heap.size 39 7 out L.length (L.flatMap NoteD.cells)) ∧ Hid (Below w.heap.size w wr)) (fun _ i _ => n - (intOf i).toNat)
  case atStart => exact ⟨0, [], Nat.zero_le _, rfl, rfl, Nat.zero_le _, Lib.hid (World.ownsRow_nil _ _ _ _), Below.refl _ _⟩
  case round =>
    obtain ⟨k, L, hk, rfl, hL, hLk, hown, hb⟩ := hrel
    by_cases hlt : k < n
    · obtain ⟨b, off, rfl, hcap, hc⟩ := HV.out (by omega)
      have hq := (hc k hlt).belowB hb.out (hc k hlt).1
      have HY := Lib.hid (fun (h : (g k).serial ≤ s) => show L ++ [g k] = upL g s (k + 1) by rw [upL, if_pos h, hL.out])
      have HNo := Lib.hid (fun (h : ¬ (g k).serial ≤ s) => show L = upL g s (k + 1) by rw [upL, if_neg h, hL.out])
      generalize g k = x at *
      obtain ⟨c0, c1, c2, c3, c4, c5, c6⟩ := note_cells hq
      have hsz := hb.out.size
      have hg0 : Below wr.heap.size wr (wr.alloc (.cells #[.int .i64 x.serial, .int .i64 x.game, .int .i64 x.res.home, .int .i64 x.res.away, .int .i64 x.res.hg, .int .i64 x.res.ag, .int .i64 x.res.st] 39)) := (Below.refl _ _).alloc (Nat.le_refl _) _
      have hown2 := Lib.hid (hown.out.alloc (.cells #[.int .i64 x.serial, .int .i64 x.game, .int .i64 x.res.home, .int .i64 x.res.away, .int .i64 x.res.hg, .int .i64 x.res.ag, .int .i64 x.res.st] 39))
      have hb2 := Lib.hid (hb.out.trans (hg0.mono hsz))
      have hsz2 := hb2.out.size
      clear hc HV hq hL hg0 hown hb
      by_cases h0 : x.serial ≤ s
      · have HYY := Lib.hid (HY.out h0)
        have g1 : decide (x.serial ≤ s) = true := decide_eq_true h0
        clear HY HNo h0
        go_wp2_with (at_builtin; refine wpList_pushL rfl (.tmp 18) (.tmp 20) 30 rfl w.heap.size 39 Try.underlying30 hi hz0 hz1 hz2 rfl (by decide) x.cells rfl (by intro u hu; simp [NoteD.cells] at hu; rcases hu with rfl | rfl | rfl | rfl | rfl | rfl | rfl <;> rfl) rfl (by show Value.slice (some ⟨_, 0, none⟩) 1 1 = _; simp) hown2.out (by unfold maxLen; omega) (by omega) hsz2 ?_; intro gg cc5 w5 o5 g5 at5 lt5)
        go_roundw
        case rel => exact ⟨k + 1, L ++ [x], by omega, by go_num, HYY.out, by simp; omega, Lib.hid (by simpa using o5), Lib.hid (hb2.out.grown g5 hsz2 (fun q hq => (hown2.out.lt q hq).1))⟩
        case measure => simp [intOf]; omega
      · have HNN := Lib.hid (HNo.out h0)
        have g1 : decide (x.serial ≤ s) = false := decide_eq_false h0
        clear HY HNo h0
        go_wp2
        go_roundw
        case rel => exact ⟨k + 1, L, by omega, by go_num, HNN.out, by omega, hown2.out, hb2.out⟩
        case measure => simp [intOf]; omega
    · obtain rfl : k = n := by omega
      go_wp2
      go_ret
      exact ⟨_, rfl, by have := hown.out; rw [← hL.out]; exact this, hb.out⟩
theorem noteOk_impl (n : Int) (v : Value) (m : Nat) (g : Nat → GameD) (serial game home away hg ag st : Int) (R : Bool) (w : World) (hR : R = true ↔ seasonP n m g ∧ noteP n m g ⟨serial, game, ⟨home, away, hg, ag, st⟩⟩) (hv : GameRow w v m g) :
    Calls Try.prog 19 #[.int .i64 n, v, .agg #[.int .i64 serial, .int .i64 game, .int .i64 home, .int .i64 away, .int .i64 hg, .int .i64 ag, .int .i64 st]] w fun e w' => e = .returned (.bool R) ∧ Below w.heap.size w w' := by
  obtain ⟨aa, cap, rfl, hn, hc⟩ := hv.form
  have HV := Lib.hid hc
  have HG := Lib.hid hv
  obtain ⟨r, hr⟩ := bool_ex (seasonP n m g)
  have C := Lib.hid (fun w1 h1 => seasonOk_impl n (.slice aa m cap) m g r w1 hr h1)
  have HRR := Lib.hid hr
  have HN : Hid (¬ (seasonP n m g ∧ noteP n m g ⟨serial, game, ⟨home, away, hg, ag, st⟩⟩) → R = false) := fun h => bool_not hR h
  have HY : Hid (seasonP n m g ∧ noteP n m g ⟨serial, game, ⟨home, away, hg, ag, st⟩⟩ → R = true) := fun h => hR.2 h
  clear hR hr hv hc
  go_enter Try.func19, Try.ntmps19
  go_wp2_with fail
  refine (C.out _ (HG.out.below ((Below.refl _ w).alloc (Nat.le_refl _) _) (Nat.le_refl _))).mono ?_
  rintro e w2 ⟨rfl, b2⟩
  have bx2 := Lib.hid (BoxN.made b2 (B := w.heap.size) rfl)
  have b3 := Lib.hid (below_prev b2)
  have hz2 := b3.out.size
  have HG2 := Lib.hid (HG.out.below b3.out (Nat.le_refl _))
  clear b2 C HG
  cases r with
  | false =>
    obtain rfl := HN.out fun h => by have := HRR.out.2 h.1; cases this
    clear HN HY HRR HV bx2 HG2
    go_wp2
    go_ret
    exact ⟨rfl, b3.out⟩
  | true =>
  have HSE := Lib.hid (HRR.out.1 rfl)
  have l2 := bx2.out.1
  have d0 := bx2.out.2 0 _ rfl
  have d1 := bx2.out.2 1 _ rfl
  have d2 := bx2.out.2 2 _ rfl
  have d3 := bx2.out.2 3 _ rfl
  have d4 := bx2.out.2 4 _ rfl
  have d5 := bx2.out.2 5 _ rfl
  have d6 := bx2.out.2 6 _ rfl
  clear HRR
  by_cases h1 : 1 ≤ serial ∧ serial ≤ 100000 ∧ 0 ≤ game ∧ game < (m : Int)
  rotate_left
  · obtain rfl := HN.out fun h => h1 (by have h5 : 1 ≤ serial ∧ serial ≤ 100000 := h.2.1; have h6 : 0 ≤ game ∧ game ≤ (m : Int) - 1 := h.2.2.1; omega)
    clear HN HY HV bx2 HG2 HSE
    by_cases e1 : serial < 1
    · have g1 : decide (serial < 1) = true := decide_eq_true e1
      go_wp2
      go_ret
      exact ⟨rfl, b3.out⟩
    have g1 : decide (serial < 1) = false := decide_eq_false e1
    by_cases e2 : 100000 < serial
    · have g2 : decide (100000 < serial) = true := decide_eq_true e2
      go_wp2
      go_ret
      exact ⟨rfl, b3.out⟩
    have g2 : decide (100000 < serial) = false := decide_eq_false e2
    by_cases e3 : game < 0
    · have g3 : decide (game < 0) = true := decide_eq_true e3
      go_wp2
      go_ret
      exact ⟨rfl, b3.out⟩
    have g3 : decide (game < 0) = false := decide_eq_false e3
    have g4 : decide ((m : Int) ≤ game) = true := decide_eq_true (by omega)
    go_wp2
    go_ret
    exact ⟨rfl, b3.out⟩
  obtain ⟨j, rfl⟩ : ∃ j : Nat, game = (j : Int) := ⟨game.toNat, by omega⟩
  have hj : j < m := by omega
  have g1 : decide (serial < 1) = false := decide_eq_false (by omega)
  have g2 : decide (100000 < serial) = false := decide_eq_false (by omega)
  have g3 : decide ((j : Int) < 0) = false := decide_eq_false (by omega)
  have g4 : decide ((m : Int) ≤ (j : Int)) = false := decide_eq_false (by omega)
  have g4' : decide (m ≤ j) = false := decide_eq_false (by omega)
  obtain ⟨b, off, rfl, hcap, hc⟩ := HV.out (by omega)
  have hq := (hc j hj).belowB b3.out (hc j hj).1
  have hqlt := (hc j hj).1
  obtain ⟨y, hy⟩ : ∃ y, g j = y := ⟨_, rfl⟩
  rw [hy] at hq
  have HYJ : Hid (g ((j : Int)).toNat = y) := Lib.hid (by simpa using hy)
  obtain ⟨c0, c1, c2, c3, c4⟩ := game_cells hq
  obtain ⟨rg, hrg⟩ := bool_ex (gameP n ⟨home, away, hg, ag, st⟩)
  have CG := Lib.hid (fun w1 => gameOk_impl n home away hg ag st rg w1 hrg)
  have HRG := Lib.hid hrg
  have CF := Lib.hid (fun w1 => isFixture_impl home away hg ag st y.home y.away w1)
  have CO := Lib.hid (fun w1 => isOpen_impl home away hg ag st w1)
  have b4 := Lib.hid (b3.out.alloc hz2 (.cells #[.int .i64 y.home, .int .i64 y.away, .int .i64 y.hg, .int .i64 y.ag, .int .i64 y.st] 37))
  have hg0 : Below w2.heap.size w2 (w2.alloc (.cells #[.int .i64 y.home, .int .i64 y.away, .int .i64 y.hg, .int .i64 y.ag, .int .i64 y.st] 37)) := (Below.refl _ _).alloc (Nat.le_refl _) _
  have H1 := Lib.hid h1
  clear HV hc hq hy h1 hrg HG2
  go_wp2_with fail
  refine (CG.out _).mono ?_
  rintro e w3 ⟨rfl, b5⟩
  have by3 := Lib.hid (BoxN.made b5 (B := w2.heap.size) rfl)
  have b6 := below_prev b5
  have bx3 := Lib.hid (bx2.out.below b6)
  have HB3 := Lib.hid (b3.out.trans (b6.mono hz2))
  have hz3 := HB3.out.size
  clear c0 c1 c2 c3 c4 b5 b6 bx2 b3 b4 hg0 CG d0 d1 d2 d3 d4 d5 d6
  cases rg with
  | false =>
    obtain rfl := HN.out fun h => by have := HRG.out.2 h.2.2.2.1; cases this
    clear HN HY HRG bx3 by3 HSE H1 CF CO HYJ
    go_wp2
    go_ret
    exact ⟨rfl, HB3.out⟩
  | true =>
  have HGP := Lib.hid (HRG.out.1 rfl)
  have l3 := bx3.out.1
  have m3 := by3.out.1
  have d2 := bx3.out.2 2 _ rfl
  have d3 := bx3.out.2 3 _ rfl
  have d4 := bx3.out.2 4 _ rfl
  have d5 := bx3.out.2 5 _ rfl
  have d6 := bx3.out.2 6 _ rfl
  have e0 := by3.out.2 0 _ rfl
  have e1 := by3.out.2 1 _ rfl
  obtain ⟨rf, hrf⟩ : ∃ rf, rf = (home == y.home && away == y.away) := ⟨_, rfl⟩
  rw [← hrf] at CF
  have HRF := Lib.hid hrf
  clear hrf HRG
  go_wp2_with fail
  refine (CF.out _).mono ?_
  rintro e w4 ⟨rfl, b7⟩
  have bx4 := Lib.hid (bx3.out.below b7)
  have HB4 := Lib.hid (HB3.out.trans (b7.mono hz3))
  have hz4 := HB4.out.size
  clear d2 d3 d4 d5 d6 e0 e1 bx3 by3 HB3 b7 CF
  cases rf with
  | false =>
    obtain rfl := HN.out fun h => by
      have h5 := h.2.2.2.2.2
      rw [show (⟨serial, (j : Int), ⟨home, away, hg, ag, st⟩⟩ : NoteD).game = (j : Int) from rfl, HYJ.out] at h5
      have := HRF.out
      rw [show home = y.home from h5.1, show away = y.away from h5.2] at this
      simp at this
    clear HN HY bx4 HSE H1 CO HYJ HRF HGP
    go_wp2
    go_ret
    exact ⟨rfl, HB4.out⟩
  | true =>
  have l4 := bx4.out.1
  have d2 := bx4.out.2 2 _ rfl
  have d3 := bx4.out.2 3 _ rfl
  have d4 := bx4.out.2 4 _ rfl
  have d5 := bx4.out.2 5 _ rfl
  have d6 := bx4.out.2 6 _ rfl
  obtain ⟨ro, hro⟩ : ∃ ro, ro = (st == 0) := ⟨_, rfl⟩
  rw [← hro] at CO
  have HRO := Lib.hid hro
  clear hro
  go_wp2_with fail
  refine (CO.out _).mono ?_
  rintro e w5 ⟨rfl, b8⟩
  have HB5 := Lib.hid (HB4.out.trans (b8.mono hz4))
  clear d2 d3 d4 d5 d6 bx4 HB4 b8 CO
  cases ro with
  | true =>
    obtain rfl := HN.out fun h => by
      have h5 := h.2.2.2.2.1
      have := HRO.out.symm
      simp at this
      exact h5 this
    clear HN HY HSE H1 HYJ HRF HGP HRO
    go_wp2
    go_ret
    exact ⟨rfl, HB5.out⟩
  | false =>
    obtain rfl := HY.out ⟨HSE.out, ⟨H1.out.1, H1.out.2.1⟩, ⟨H1.out.2.2.1, by have := H1.out.2.2.2; show (j : Int) ≤ _; omega⟩, HGP.out, by
      have := HRO.out.symm
      simp at this
      exact this, by
      have := HRF.out.symm
      simp at this
      show home = (g ((j : Int)).toNat).home
      rw [HYJ.out]; exact this.1, by
      have := HRF.out.symm
      simp at this
      show away = (g ((j : Int)).toNat).away
      rw [HYJ.out]; exact this.2⟩
    clear HN HY HSE H1 HYJ HRF HGP HRO
    go_wp2
    go_ret
    exact ⟨rfl, HB5.out⟩
end Go.Proofs.Ytojkonhhaamodaa
set_option linter.unusedVariables false
namespace Go.Proofs.Ytojkonhhaamodaa
open Go.RowKit Go.Maps

theorem plainElem_bool_inv {H : Type} {P : Program} {e : TypeId} (he : P.underlying e = some .bool) {v : Value} {z : DataW H × List MemPlace} (h : plainElem P e v = some z) : ∃ x, v = .bool x ∧ z = (.lit (.bool x), []) := by
  unfold plainElem at h
  rw [he] at h
  cases v <;> simp at h
  exact ⟨_, rfl, h.symm⟩

/-- block b of w is a map of at most n entries that says true at the keys of L, and false at all else -/
def BoolMap (P : Program) (w : World) (k e : TypeId) (b n : Nat) (L : List Lit) : Prop :=
  ∃ D : DataW Unit, w.ownsMap P k (plainElem P e) b n D ∧ ∀ kl, (kl ∈ L → D.atKey kl (.lit (.bool false)) = .lit (.bool true)) ∧ (kl ∉ L → D.atKey kl (.lit (.bool false)) = .lit (.bool false))
section
variable {P : Program} {w w' : World} {k e t : TypeId} {b n : Nat} {L : List Lit}
theorem BoolMap.made (w : World) (P : Program) (k e : TypeId) : BoolMap P (w.alloc (.map #[] 0)) k e w.heap.size 0 [] :=
  ⟨.map [], World.ownsMap_made w P k _, fun kl => ⟨fun h => by simp at h, fun _ => rfl⟩⟩
theorem BoolMap.grown {row : Option Nat} (h : BoolMap P w k e b n L) (hg : w.grownBy w' row) (hne : some b ≠ row) : BoolMap P w' k e b n L := by
  obtain ⟨D, ho, hD⟩ := h
  exact ⟨D, ho.kept hg hne, hD⟩
theorem BoolMap.below {B : Nat} (h : BoolMap P w k e b n L) (hb : Below B w w') (hB : w.heap.size ≤ B) : BoolMap P w' k e b n L := h.grown (below_grown hb hB) (by simp)
theorem BoolMap.alloc (h : BoolMap P w k e b n L) (o : Obj) : BoolMap P (w.alloc o) k e b n L := h.grown (World.grownBy_alloc w o none) (by simp)
theorem BoolMap.lt (h : BoolMap P w k e b n L) : b < w.heap.size := by
  obtain ⟨D, ho, _⟩ := h
  exact ho.lt
theorem BoolMap.run {key : Value} {kl : Lit} (h : BoolMap P w k e b n L) (K : Keyed P k) (ht : P.underlying t = some (.map k e)) (he : P.underlying e = some .bool) (hz : (zeroValue e).run P w = .ok (.bool false) w) (hkey : keyOf P k key = some kl) :
    (kl ∈ L → (Instr.lookup t (.map (some b)) key false).run P w = .ok (.bool true) w) ∧ (kl ∉ L → (Instr.lookup t (.map (some b)) key false).run P w = .ok (.bool false) w) := by
  obtain ⟨D, ho, hD⟩ := h
  obtain ⟨v, ps, hrun, hv⟩ := ho.lookup K ht hz (plainElem_bool he false) hkey
  obtain ⟨x, rfl, hx⟩ := plainElem_bool_inv he hv
  simp only [Prod.mk.injEq] at hx
  refine ⟨fun h => ?_, fun h => ?_⟩
  · have := (hD kl).1 h
    rw [hx.1] at this
    simp only [DataW.lit.injEq, Lit.bool.injEq] at this
    rw [hrun, this]
  · have := (hD kl).2 h
    rw [hx.1] at this
    simp only [DataW.lit.injEq, Lit.bool.injEq] at this
    rw [hrun, this]
/-- 'm[key] = true' -/
theorem wpList_boolTrue {ops : Array Oper} {rest : List Oper} {o : Oper} {a : Act} {Q : Exit → Act → World → Prop} (hg : o.guard = none) (m x v : Operand) (t : TypeId) (hop : o.op = Op.mapUpdate t m x v)
    (k e : TypeId) (K : Keyed P k) (ht : P.underlying t = some (.map k e)) (he : P.underlying e = some .bool) (b n : Nat) (L : List Lit)
    (hm : a.eval m = .map (some b)) (hown : BoolMap P w k e b n L) (hn : n < maxLen) (key : Value) (kl : Lit) (hx : a.eval x = key) (hv : a.eval v = .bool true) (hkey : keyOf P k key = some kl) (hk : WideAt.IsKeyLit kl)
    (hK : ∀ w', BoolMap P w' k e b (n + 1) (kl :: L) → w.grownBy w' (some b) → wpList P ops Q rest (a.put o.dst undef) w') :
    wpList P ops Q (o :: rest) a w := by
  obtain ⟨D, ho, hD⟩ := hown
  refine wpList_mapUpdate_own w hg m x v t hop k e K ht (plainElem P e) b n D hm ho hn key (.bool true) kl hx hv hkey (.lit (.bool true)) [] (plainElem_bool he true) fun w' h1 h2 => ?_
  refine hK w' ⟨_, h1, fun kl' => ?_⟩ h2
  by_cases hkk : kl' = kl
  · subst hkk
    exact ⟨fun _ => atKey_put_same ho.isMap hk _ _, fun h => absurd (List.mem_cons_self ..) h⟩
  · rw [atKey_put_other hkk]
    refine ⟨fun h => (hD kl').1 ?_, fun h => (hD kl').2 ?_⟩
    · rcases List.mem_cons.1 h with h | h
      · exact absurd h hkk
      · exact h
    · exact fun h' => h (List.mem_cons_of_mem _ h')
end

/-- block b of w is a map of at most n entries that holds, at each key, how often it was counted (never 0) -/
def CountMap (P : Program) (w : World) (k e : TypeId) (b n : Nat) (C : Lit → Nat) : Prop :=
  ∃ D : DataW Unit, w.ownsMap P k (plainElem P e) b n D ∧ (∀ kl, Maps.has D kl = true ↔ 0 < C kl) ∧ ∀ kl, D.atKey kl (.lit (.int .i64 0)) = .lit (.int .i64 (C kl))
open Classical in
noncomputable def oneMore (C : Lit → Nat) (kl : Lit) : Lit → Nat := fun z => C z + if z = kl then 1 else 0
/-- 'for .. range m' is under way over such a map -/
def CountRange (P : Program) (w : World) (k e : TypeId) (b r n : Nat) (C : Lit → Nat) (left : Lit → Bool) (cnt : Nat) : Prop :=
  ∃ D : DataW Unit, w.ranges P k (plainElem P e) b r n D left cnt ∧ ∀ kl, D.atKey kl (.lit (.int .i64 0)) = .lit (.int .i64 (C kl))
section
variable {P : Program} {w w' : World} {k e t : TypeId} {b n r cnt : Nat} {C : Lit → Nat} {left : Lit → Bool}
theorem CountMap.made (w : World) (P : Program) (k e : TypeId) : CountMap P (w.alloc (.map #[] 0)) k e w.heap.size 0 (fun _ => 0) :=
  ⟨.map [], World.ownsMap_made w P k _, fun kl => ⟨fun h => by simp [Maps.has_eq] at h, fun h => by simp at h⟩, fun kl => rfl⟩
theorem CountMap.grown {row : Option Nat} (h : CountMap P w k e b n C) (hg : w.grownBy w' row) (hne : some b ≠ row) : CountMap P w' k e b n C := by
  obtain ⟨D, ho, hD⟩ := h
  exact ⟨D, ho.kept hg hne, hD⟩
theorem CountMap.below {B : Nat} (h : CountMap P w k e b n C) (hb : Below B w w') (hB : w.heap.size ≤ B) : CountMap P w' k e b n C := h.grown (below_grown hb hB) (by simp)
theorem CountMap.alloc (h : CountMap P w k e b n C) (o : Obj) : CountMap P (w.alloc o) k e b n C := h.grown (World.grownBy_alloc w o none) (by simp)
theorem CountMap.lt (h : CountMap P w k e b n C) : b < w.heap.size := by
  obtain ⟨D, ho, _⟩ := h
  exact ho.lt
/-- 'm[key]' -/
theorem wpList_countLook {ops : Array Oper} {rest : List Oper} {o : Oper} {a : Act} {Q : Exit → Act → World → Prop} (hg : o.guard = none) (m x : Operand) (t : TypeId) (hop : o.op = Op.lookup t m x false)
    (k e : TypeId) (K : Keyed P k) (ht : P.underlying t = some (.map k e)) (he : P.underlying e = some (.int .i64)) (hz : (zeroValue e).run P w = .ok (.int .i64 0) w) (b n : Nat) (C : Lit → Nat)
    (hm : a.eval m = .map (some b)) (hown : CountMap P w k e b n C) (key : Value) (kl : Lit) (hx : a.eval x = key) (hkey : keyOf P k key = some kl)
    (hK : wpList P ops Q rest (a.put o.dst (.int .i64 (C kl))) w) :
    wpList P ops Q (o :: rest) a w := by
  obtain ⟨D, ho, _, hD⟩ := hown
  refine wpList_lookup_own_int w hg m x t hop k e .i64 K ht he hz b n D hm ho key kl hx hkey fun c hc _ => ?_
  rw [hD kl] at hc
  simp only [DataW.lit.injEq, Lit.int.injEq, true_and] at hc
  rw [← hc]
  exact hK
/-- 'm[key] = v' where v is one more than it held -/
theorem wpList_countMore {ops : Array Oper} {rest : List Oper} {o : Oper} {a : Act} {Q : Exit → Act → World → Prop} (hg : o.guard = none) (m x v : Operand) (t : TypeId) (hop : o.op = Op.mapUpdate t m x v)
    (k e : TypeId) (K : Keyed P k) (ht : P.underlying t = some (.map k e)) (he : P.underlying e = some (.int .i64)) (b n : Nat) (C : Lit → Nat)
    (hm : a.eval m = .map (some b)) (hown : CountMap P w k e b n C) (hn : n < maxLen) (key : Value) (kl : Lit) (hx : a.eval x = key) (hv : a.eval v = .int .i64 ((C kl : Int) + 1)) (hsm : C kl < 1000000000) (hkey : keyOf P k key = some kl) (hk : WideAt.IsKeyLit kl)
    (hK : ∀ w', CountMap P w' k e b (n + 1) (oneMore C kl) → w.grownBy w' (some b) → wpList P ops Q rest (a.put o.dst undef) w') :
    wpList P ops Q (o :: rest) a w := by
  obtain ⟨D, ho, hh, hD⟩ := hown
  refine wpList_mapUpdate_own w hg m x v t hop k e K ht (plainElem P e) b n D hm ho hn key _ kl hx hv hkey (.lit (.int .i64 ((C kl : Int) + 1))) [] (plainElem_int he (WalkArith.wf_i64 (by omega))) fun w' h1 h2 => ?_
  refine hK w' ⟨_, h1, fun kl' => ?_, fun kl' => ?_⟩ h2
  · by_cases hkk : kl' = kl
    · subst hkk
      rw [Maps.has_put_same ho.isMap hk]
      simp [oneMore]
    · rw [Maps.has_put_other hkk, hh kl']
      simp [oneMore, hkk]
  · by_cases hkk : kl' = kl
    · subst hkk
      rw [atKey_put_same ho.isMap hk]
      simp [oneMore]
    · rw [atKey_put_other hkk, hD kl']
      simp [oneMore, hkk]
/-- 'range m' -/
theorem wpList_countRange {ops : Array Oper} {rest : List Oper} {o : Oper} {a : Act} {Q : Exit → Act → World → Prop} (hg : o.guard = none) (m : Operand) (t : TypeId) (hop : o.op = Op.range t m) (k e : TypeId) (K : Keyed P k) (ht : P.underlying t = some (.map k e)) (b n : Nat) (C : Lit → Nat)
    (hm : a.eval m = .map (some b)) (hown : CountMap P w k e b n C)
    (hK : ∀ w' left cnt, (∀ kl, left kl = true ↔ 0 < C kl) → CountRange P w' k e b w.heap.size n C left cnt → w.grownBy w' none → wpList P ops Q rest (a.put o.dst (.pointer (some ⟨w.heap.size, 0, none⟩))) w') :
    wpList P ops Q (o :: rest) a w := by
  obtain ⟨D, ho, hh, hD⟩ := hown
  exact wpList_range_own w hg m t hop k e K ht (plainElem P e) b n D hm ho fun w' h1 h2 _ => hK w' _ _ hh ⟨D, h1, hD⟩ h2
/-- the step -/
theorem wpList_countNext {ops : Array Oper} {rest : List Oper} {o : Oper} {a : Act} {Q : Exit → Act → World → Prop} (hg : o.guard = none) (it : Operand) (hop : o.op = Op.next it false) (k e : TypeId) (K : Keyed P k) (hk : P.underlying k = some (.int .i64)) (he : P.underlying e = some (.int .i64))
    (b r n : Nat) (C : Lit → Nat) (left : Lit → Bool) (cnt : Nat) (hit : a.eval it = .pointer (some ⟨r, 0, none⟩)) (h : CountRange P w k e b r n C left cnt)
    (hDone : (∀ kl, left kl = false) → wpList P ops Q rest (a.put o.dst (.tuple #[.bool false])) w)
    (hMore : ∀ (x : Int) (w' : World) (cnt' : Nat), left (.int .i64 x) = true → CountRange P w' k e b r n C (fun z => left z && !z.sameKey (.int .i64 x)) cnt' → cnt' < cnt →
      w.grownBy w' (some r) → (Instr.entry (.pointer (some ⟨r, 0, none⟩))).run P w' = .ok (.tuple #[.int .i64 x, .int .i64 (C (.int .i64 x))]) w' → wpList P ops Q rest (a.put o.dst (.tuple #[.bool true, .int .i64 x, .int .i64 (C (.int .i64 x))])) w') :
    wpList P ops Q (o :: rest) a w := by
  obtain ⟨D, ho, hD⟩ := h
  refine wpList_next_ranges_ii w hg it hop k e .i64 .i64 K hk he b r n D left cnt hit ho (fun _ h => hDone h) fun x c w' cnt' _ _ hl hat hrg hlt hgr _ hen => ?_
  have hc : c = C (.int .i64 x) := by
    have := (hat (.lit (.int .i64 0))).symm.trans (hD _)
    simpa using this
  subst hc
  exact hMore x w' cnt' hl ⟨D, hrg, hD⟩ hlt hgr hen
theorem CountRange.left_eq (h : CountRange P w k e b r n C left cnt) : w.rangeLeft b r = cnt := by
  obtain ⟨D, ho, _⟩ := h
  exact ho.left_eq
end
/-- how many numbers below c are still to come -/
def leftN (left : Lit → Bool) : Nat → Nat
  | 0 => 0
  | c + 1 => leftN left c + if left (.int .i64 (c : Int)) = true then 1 else 0
theorem leftN_congr {l l' : Lit → Bool} : ∀ c : Nat, (∀ j : Nat, j < c → l (.int .i64 (j : Int)) = l' (.int .i64 (j : Int))) → leftN l c = leftN l' c
  | 0, _ => rfl
  | c + 1, h => by
    unfold leftN
    rw [leftN_congr c fun j hj => h j (by omega), h c (by omega)]
theorem leftN_zero {l : Lit → Bool} (h : ∀ kl, l kl = false) : ∀ c, leftN l c = 0
  | 0 => rfl
  | c + 1 => by unfold leftN; rw [leftN_zero h c, h]; rfl
theorem same_int (x y : Int) : (Lit.int .i64 x).sameKey (.int .i64 y) = decide (x = y) := by
  have := WideAt.sameKey_iff (a := .int .i64 x) (b := .int .i64 y) trivial
  by_cases h : x = y
  · subst h; simpa using this
  · rw [decide_eq_false h]
    cases hs : (Lit.int .i64 x).sameKey (.int .i64 y)
    · rfl
    · have := this.1 hs
      simp at this
      exact absurd this h
theorem leftN_strike {l : Lit → Bool} {x : Nat} (hl : l (.int .i64 (x : Int)) = true) : ∀ c, x < c → leftN (fun z => l z && !z.sameKey (.int .i64 (x : Int))) c + 1 = leftN l c
  | 0, h => absurd h (by omega)
  | c + 1, h => by
    by_cases hx : x = c
    · subst hx
      have e1 : leftN (fun z => l z && !z.sameKey (.int .i64 (x : Int))) x = leftN l x := leftN_congr x fun j hj => by
        simp only [same_int]
        rw [decide_eq_false (by omega)]; simp
      unfold leftN
      rw [e1]
      simp [same_int, hl]
    · have := leftN_strike hl c (by omega)
      unfold leftN
      simp only [same_int]
      rw [decide_eq_false (by omega)]
      simp
      omega
end Go.Proofs.Ytojkonhhaamodaa
set_option linter.unusedVariables false
namespace Go.Proofs.Ytojkonhhaamodaa
open Go.RowKit

end Go.Proofs.Ytojkonhhaamodaa
set_option linter.unusedVariables false
namespace Go.Proofs.Ytojkonhhaamodaa
open Go.RowKit Go.Maps

theorem kStr : Keyed Try.prog 9 := string_keyed Try.underlying9
theorem kInt : Keyed Try.prog 3 := int_keyed Try.underlying3
theorem zBool (w : World) : (zeroValue 4).run Try.prog w = .ok (.bool false) w := by kernel_rfl
def nameK (t : TeamD) : Lit := .string t.nm.data.toList
def seedK (t : TeamD) : Lit := .int .i64 t.seed
def keysUpto (f : TeamD → Lit) (g : Nat → TeamD) (k : Nat) (L : List Lit) : Prop := ∀ kl, kl ∈ L ↔ ∃ j, j < k ∧ kl = f (g j)
theorem keysUpto.next {f : TeamD → Lit} {g : Nat → TeamD} {k : Nat} {L : List Lit} (h : keysUpto f g k L) : keysUpto f g (k + 1) (f (g k) :: L) := by
  intro kl
  rw [List.mem_cons, h kl]
  constructor
  · rintro (rfl | ⟨j, hj, rfl⟩)
    · exact ⟨k, by omega, rfl⟩
    · exact ⟨j, by omega, rfl⟩
  · rintro ⟨j, hj, rfl⟩
    by_cases hjk : j = k
    · subst hjk; exact .inl rfl
    · exact .inr ⟨j, by omega, rfl⟩
theorem nameK_inj {a b : TeamD} (h : nameK a = nameK b) : a.nm = b.nm := by
  unfold nameK at h
  simp only [Lit.string.injEq] at h
  exact ByteArray.ext (Array.toList_inj.mp h)
theorem seedK_inj {a b : TeamD} (h : seedK a = seedK b) : a.seed = b.seed := by
  unfold seedK at h
  simpa using h
theorem fresh_of {g : Nat → TeamD} {k : Nat} {L1 L2 : List Lit} (h1 : keysUpto nameK g k L1) (h2 : keysUpto seedK g k L2) (ht : teamP (g k)) (hn : nameK (g k) ∉ L1) (hs : seedK (g k) ∉ L2) : freshP g k :=
  ⟨ht, fun j hj => ⟨fun e => hn ((h1 _).2 ⟨j, hj, by unfold nameK; rw [e]⟩), fun e => hs ((h2 _).2 ⟨j, hj, by unfold seedK; rw [e]⟩)⟩⟩
theorem stale_name {g : Nat → TeamD} {k : Nat} {L1 : List Lit} (h1 : keysUpto nameK g k L1) (hn : nameK (g k) ∈ L1) : ¬ freshP g k := by
  obtain ⟨j, hj, e⟩ := (h1 _).1 hn
  exact fun h => (h.2 j hj).1 (nameK_inj e).symm
theorem stale_seed {g : Nat → TeamD} {k : Nat} {L2 : List Lit} (h2 : keysUpto seedK g k L2) (hs : seedK (g k) ∈ L2) : ¬ freshP g k := by
  obtain ⟨j, hj, e⟩ := (h2 _).1 hs
  exact fun h => (h.2 j hj).2 (seedK_inj e).symm

end Go.Proofs.Ytojkonhhaamodaa
