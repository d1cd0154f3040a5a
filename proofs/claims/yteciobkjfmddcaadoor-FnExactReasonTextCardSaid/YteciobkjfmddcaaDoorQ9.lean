/-
  Packed: GamesImpl, Cur, OrdersImpl, Decisive, TablesImpl, FieldImpl, Maps.
-/
import Derived.Test.YteciobkjfmddcaaDoorProg
import Derived.Lib.Hide
import Derived.Outline
import Derived.Deep.QuietTactic
import Derived.BigQuiet
import Derived.Maps.OwnOps
import Derived.Maps.OwnSet
import Derived.Maps.Views
import Derived.Maps.RangeWalk
import Derived.Test.YteciobkjfmddcaaDoorQ1
import Derived.Test.YteciobkjfmddcaaDoorQ7
import Derived.Test.YteciobkjfmddcaaDoorQ8
set_option linter.unusedVariables false
namespace Go.Proofs.YteciobkjfmddcaaDoor
open Go.RowKit

theorem SeenN.below {K : Nat} {w w' : World} {B : Nat} {S : Nat → Bool} (h : SeenN K w B S) (hb : Below w.heap.size w w') : SeenN K w' B S :=
  ⟨Nat.lt_of_lt_of_le h.1 hb.size, fun j hj => ⟨(hb.cell (p := ⟨B, j, none⟩) h.1).trans (h.2 j hj).1, (hb.frozen (p := ⟨B, j, none⟩) h.1).trans (h.2 j hj).2⟩⟩
def pairG (g : Nat → GameD) (i : Nat) : Int := (g i).home * 8 + (g i).away
theorem pair_first {n : Int} {m k : Nat} {g : Nat → GameD} (hk : k < m) (hall : ∀ i, i < k → gameP n (g i)) (hg : gameP n (g k)) :
    firstI (atG g (g k).home (g k).away) m 0 = (k : Int) ↔ ¬ hasP (pairG g) (pairG g k) k := by
  rw [firstI_eq m 0 k]
  obtain ⟨⟨_, hn⟩, ⟨q1, q2⟩, ⟨q3, q4⟩, _⟩ := hg
  constructor
  · rintro ⟨_, _, h⟩ ⟨i, hi, e⟩
    obtain ⟨_, ⟨r1, r2⟩, ⟨r3, r4⟩, _⟩ := hall i hi
    have h2 := h i (Nat.zero_le _) hi
    unfold pairG at e
    have e1 : (g i).home = (g k).home := by omega
    have e2 : (g i).away = (g k).away := by omega
    unfold atG at h2
    rw [e1, e2] at h2
    simp at h2
  · intro h
    refine ⟨⟨Nat.zero_le _, by omega⟩, by simp [atG], fun i _ hi => ?_⟩
    cases hq : atG g (g k).home (g k).away i with
    | false => rfl
    | true =>
      unfold atG at hq
      simp only [Bool.and_eq_true, beq_iff_eq] at hq
      exact absurd ⟨i, hi, by unfold pairG; rw [hq.1, hq.2]⟩ h

set_option maxHeartbeats 1000000 in
theorem seasonOk_impl (n : Int) (v : Value) (m : Nat) (g : Nat → GameD) (R : Bool) (w : World) (hR : R = true ↔ seasonP n m g) (hv : GameRow w v m g) :
    Calls Tryd.prog 47 #[.int .i64 n, v] w fun e w' => e = .returned (.bool R) ∧ Below w.heap.size w w' := by
  obtain ⟨aa, cap, rfl, hn, hc⟩ := hv.form
  have HV := Lib.hid hc
  have HR := Lib.hid hR
  clear hc hv hR
  by_cases h60 : 60 < m
  · have g0 : decide (60 < (m : Int)) = true := decide_eq_true (by omega)
    have g0' : decide (60 < m) = true := decide_eq_true h60
    have hf : R = false := by
      cases R with
      | false => rfl
      | true => have := (HR.out.1 rfl).1; omega
    subst hf
    clear HR
    go_enter Tryd.func47, Tryd.ntmps47
    go_wp2
    go_ret
    exact ⟨rfl, Below.refl _ _⟩
  have g0 : decide (60 < (m : Int)) = false := decide_eq_false (by omega)
  have g0' : decide (60 < m) = false := decide_eq_false h60
  have HNO : Hid (∀ k, k < m → ¬ (gameP n (g k) ∧ firstI (atG g (g k).home (g k).away) m 0 = (k : Int)) → R = false) := fun k hk h => by
    cases R with
    | false => rfl
    | true => exact absurd ((HR.out.1 rfl).2 k hk) h
  have HYES : Hid ((∀ i, i < m → gameP n (g i) ∧ firstI (atG g (g i).home (g i).away) m 0 = (i : Int)) → R = true) := fun h => HR.out.2 ⟨by omega, h⟩
  clear HR
  have s1 := SeenN.made 64 w (Array.replicate 64 (.bool false)) 94 (fun j hj => by simp [hj])
  have es : Array.replicate 64 (Value.bool false) = #[.bool false, .bool false, .bool false, .bool false, .bool false, .bool false, .bool false, .bool false, .bool false, .bool false, .bool false, .bool false, .bool false, .bool false, .bool false, .bool false, .bool false, .bool false, .bool false, .bool false, .bool false, .bool false, .bool false, .bool false, .bool false, .bool false, .bool false, .bool false, .bool false, .bool false, .bool false, .bool false, .bool false, .bool false, .bool false, .bool false, .bool false, .bool false, .bool false, .bool false, .bool false, .bool false, .bool false, .bool false, .bool false, .bool false, .bool false, .bool false, .bool false, .bool false, .bool false, .bool false, .bool false, .bool false, .bool false, .bool false, .bool false, .bool false, .bool false, .bool false, .bool false, .bool false, .bool false, .bool false] := by rfl
  rw [es] at s1
  clear es
  go_enter Tryd.func47, Tryd.ntmps47
  go_wp2
  go_loopw [13] (fun i wr => ∃ (k : Nat) (M : Nat → Bool), k ≤ m ∧ i = .int .i64 k ∧ Hid (∀ i, i < k → gameP n (g i) ∧ firstI (atG g (g i).home (g i).away) m 0 = (i : Int)) ∧ Hid (SeenN 64 wr w.heap.size M) ∧ Hid (∀ j : Nat, j < 64 → (M j = true ↔ hasP (pairG g) j k)) ∧ Below w.heap.size w wr) (fun i _ => m - (RowKit.intOf i).toNat)
  case atStart => exact ⟨0, _, Nat.zero_le _, rfl, fun i hi => absurd hi (by omega), s1, fun j _ => ⟨fun h => absurd h (by simp), fun ⟨i, hi, _⟩ => absurd hi (by omega)⟩, (Below.refl _ _).alloc (Nat.le_refl _) _⟩
  case round =>
    clear s1
    obtain ⟨k, M, hk, rfl, hok, hS, hSk, hb⟩ := hrel
    by_cases hlt : k < m
    · obtain ⟨b, off, rfl, hcap, hc⟩ := HV.out (by omega)
      have hq := (hc k hlt).belowB hb (hc k hlt).1
      have HS : Hid ((gameP n (g k) ∧ firstI (atG g (g k).home (g k).away) m 0 = (k : Int)) → ∀ i, i < k + 1 → gameP n (g i) ∧ firstI (atG g (g i).home (g i).away) m 0 = (i : Int)) := fun h i hi => by
        by_cases hik : i = k
        · subst hik; exact h
        · exact hok.out i (by omega)
      have HN := Lib.hid (HNO.out k hlt)
      have HP : Hid (gameP n (g k) → (firstI (atG g (g k).home (g k).away) m 0 = (k : Int) ↔ ¬ hasP (pairG g) (pairG g k) k)) := fun h => pair_first hlt (fun i hi => (hok.out i hi).1) h
      have HE : Hid (∀ t : Nat, pairG g k = t → ∀ j : Nat, j < 64 → ((M j || decide (j = t)) = true ↔ hasP (pairG g) j (k + 1))) := fun t ht j hj => by
        simp only [Bool.or_eq_true, decide_eq_true_eq]
        constructor
        · rintro (h | rfl)
          · obtain ⟨i, hi, hij⟩ := (hSk.out j hj).1 h
            exact ⟨i, by omega, hij⟩
          · exact ⟨k, by omega, ht⟩
        · rintro ⟨i, hi, hij⟩
          by_cases hik : i = k
          · subst hik; right; omega
          · exact .inl ((hSk.out j hj).2 ⟨i, by omega, hij⟩)
      have HSm : Hid (∀ t : Nat, t < 64 → pairG g k = t → (M t = true ↔ hasP (pairG g) (pairG g k) k)) := fun t h6 ht => by rw [ht]; exact hSk.out t h6
      have HPK : Hid (pairG g k = (g k).home * 8 + (g k).away) := rfl
      generalize hasP (pairG g) (pairG g k) k = hp at *
      generalize pairG g k = pk at *
      generalize firstI (atG g (g k).home (g k).away) m 0 = fi at *
      generalize g k = x at *
      obtain ⟨x0, x1, x2, x3, x4⟩ := x
      obtain ⟨c0, c1, c2, c3, c4⟩ := game_cells hq
      simp only at c0 c1 c2 c3 c4 HPK
      have hsz := hb.size
      clear hc HV hq hok HNO HYES hSk
      obtain ⟨r, hr⟩ := bool_ex (gameP n ⟨x0, x1, x2, x3, x4⟩)
      have C := Lib.hid (fun w1 => gameOk_impl n x0 x1 x2 x3 x4 r w1 hr)
      have HR2 := Lib.hid hr
      clear hr
      have BX : Hid (BoxN (wr.alloc (.cells #[.int .i64 x0, .int .i64 x1, .int .i64 x2, .int .i64 x3, .int .i64 x4] 76)) wr.heap.size [.int .i64 x0, .int .i64 x1, .int .i64 x2, .int .i64 x3, .int .i64 x4]) := BoxN.made (Below.refl _ _) rfl
      have SN : Hid (SeenN 64 (wr.alloc (.cells #[.int .i64 x0, .int .i64 x1, .int .i64 x2, .int .i64 x3, .int .i64 x4] 76)) w.heap.size M) := hS.out.below ((Below.refl _ _).alloc (Nat.le_refl _) _)
      have HB2 : Hid (Below w.heap.size w (wr.alloc (.cells #[.int .i64 x0, .int .i64 x1, .int .i64 x2, .int .i64 x3, .int .i64 x4] 76))) := hb.alloc hsz _
      clear hS
      cases r with
      | false =>
        have hf : R = false := HN.out fun h => by have := HR2.out.2 h.1; cases this
        subst hf
        clear HN HS HR2 HP HE HSm HPK

        obtain ⟨S, HSd⟩ : ∃ S : World → Prop, S = fun w' => BoxN w' wr.heap.size [.int .i64 x0, .int .i64 x1, .int .i64 x2, .int .i64 x3, .int .i64 x4] ∧ SeenN 64 w' w.heap.size M ∧ Below w.heap.size w w' := ⟨_, rfl⟩
        have KS : Hid (∀ wa wb, S wa → Below wa.heap.size wa wb → S wb) := by subst HSd; exact fun wa wb ⟨bx, sn, hb⟩ b => ⟨bx.below b, sn.below b, hb.trans (b.mono hb.size)⟩
        have OS : Hid (∀ wa, S wa → BoxN wa wr.heap.size [.int .i64 x0, .int .i64 x1, .int .i64 x2, .int .i64 x3, .int .i64 x4] ∧ SeenN 64 wa w.heap.size M ∧ Below w.heap.size w wa) := by subst HSd; exact fun wa h => h
        have KS0 : Hid (S (wr.alloc (.cells #[.int .i64 x0, .int .i64 x1, .int .i64 x2, .int .i64 x3, .int .i64 x4] 76)).drew) := by subst HSd; exact ⟨BX.out.below (Below.refl _ _).drew, SN.out.below (Below.refl _ _).drew, HB2.out.drew⟩
        clear HSd
        go_wp2_with fail
        refine wp_region_held_drew (S := S) (by kernel_rfl) ?_ (fun hHeld => ?_)
        · exact KS0.out
        clear KS0 hb
        refine wpAnyH_take (i := 0) (v := ?_) rfl (by kernel_rfl) (by kernel_rfl) (by kernel_rfl) (fun _ _ _ h => h) (Or.inl ⟨by rfl, ?_⟩) (by assumption) ?_
        rotate_left
        · (intro wa hSw; obtain ⟨bx, sn, hb⟩ := OS.out _ hSw; have cb0 := bx.2 0 _ rfl; have cb1 := bx.2 1 _ rfl; have cb2 := bx.2 2 _ rfl; have cb3 := bx.2 3 _ rfl; have cb4 := bx.2 4 _ rfl; go_simp; try with_reducible rfl)
        simp only [Act.put, List.getElem_toArray, List.getElem_cons_zero, List.setIfInBounds_toArray, List.set_cons_zero, List.set_cons_succ]
        refine wpAnyH_take (i := 1) (v := ?_) rfl (by kernel_rfl) (by kernel_rfl) (by kernel_rfl) (fun _ _ _ h => h) (Or.inl ⟨by rfl, ?_⟩) (by assumption) ?_
        rotate_left
        · (intro wa hSw; obtain ⟨bx, sn, hb⟩ := OS.out _ hSw; have cb0 := bx.2 0 _ rfl; have cb1 := bx.2 1 _ rfl; have cb2 := bx.2 2 _ rfl; have cb3 := bx.2 3 _ rfl; have cb4 := bx.2 4 _ rfl; go_simp; try with_reducible rfl)
        simp only [Act.put, List.getElem_toArray, List.getElem_cons_zero, List.getElem_cons_succ, List.setIfInBounds_toArray, List.set_cons_zero, List.set_cons_succ]
        refine wpAnyH_ready (rs := [2]) (by kernel_rfl) (by simp) ?_
        refine AllReadyH.cons (o := _) rfl (fun K hK => ?_) AllReadyH.nil
        go_simp
        obtain ⟨bx, sn, hb⟩ := OS.out _ hHeld
        refine (C.out _).mono ?_
        rintro e w101 ⟨rfl, b101⟩
        clear bx sn hb
        (try go_wp2_with fail)
        refine hK.out _ _ ?_ (fun hHeld101 => ?_)
        · exact KS.out _ _ hHeld b101
        clear hK K
        refine wpAnyH_take (i := 3) (v := ?_) rfl (by kernel_rfl) (by kernel_rfl) (by kernel_rfl) (fun _ _ _ h => h) (Or.inl ⟨by rfl, ?_⟩) (by assumption) ?_
        rotate_left
        · (intro wa hSw; obtain ⟨bx, sn, hb⟩ := OS.out _ hSw; have cb0 := bx.2 0 _ rfl; have cb1 := bx.2 1 _ rfl; have cb2 := bx.2 2 _ rfl; have cb3 := bx.2 3 _ rfl; have cb4 := bx.2 4 _ rfl; go_simp; try with_reducible rfl)
        simp only [Act.put, List.getElem_toArray, List.getElem_cons_zero, List.getElem_cons_succ, List.setIfInBounds_toArray, List.set_cons_zero, List.set_cons_succ]
        refine wpAnyH_take (i := 4) (v := ?_) rfl (by kernel_rfl) (by kernel_rfl) (by kernel_rfl) (fun _ _ _ h => h) (Or.inl ⟨by rfl, ?_⟩) (by assumption) ?_
        rotate_left
        · (intro wa hSw; obtain ⟨bx, sn, hb⟩ := OS.out _ hSw; have cb0 := bx.2 0 _ rfl; have cb1 := bx.2 1 _ rfl; have cb2 := bx.2 2 _ rfl; have cb3 := bx.2 3 _ rfl; have cb4 := bx.2 4 _ rfl; go_simp; try with_reducible rfl)
        simp only [Act.put, List.getElem_toArray, List.getElem_cons_zero, List.getElem_cons_succ, List.setIfInBounds_toArray, List.set_cons_zero, List.set_cons_succ]
        refine wpAnyH_take (i := 5) (v := undef) rfl (by kernel_rfl) (by kernel_rfl) (by kernel_rfl) (fun _ _ _ h => h) (Or.inr ⟨by rfl, rfl⟩) (by assumption) ?_
        simp only [Act.put, List.getElem_toArray, List.getElem_cons_zero, List.getElem_cons_succ, List.setIfInBounds_toArray, List.set_cons_zero, List.set_cons_succ]
        refine wpAnyH_take (i := 6) (v := undef) rfl (by kernel_rfl) (by kernel_rfl) (by kernel_rfl) (fun _ _ _ h => h) (Or.inr ⟨by rfl, rfl⟩) (by assumption) ?_
        simp only [Act.put, List.getElem_toArray, List.getElem_cons_zero, List.getElem_cons_succ, List.setIfInBounds_toArray, List.set_cons_zero, List.set_cons_succ]
        refine wpAnyH_take (i := 7) (v := undef) rfl (by kernel_rfl) (by kernel_rfl) (by kernel_rfl) (fun _ _ _ h => h) (Or.inr ⟨by rfl, rfl⟩) (by assumption) ?_
        simp only [Act.put, List.getElem_toArray, List.getElem_cons_zero, List.getElem_cons_succ, List.setIfInBounds_toArray, List.set_cons_zero, List.set_cons_succ]
        refine wpAnyH_take (i := 8) (v := undef) rfl (by kernel_rfl) (by kernel_rfl) (by kernel_rfl) (fun _ _ _ h => h) (Or.inr ⟨by rfl, rfl⟩) (by assumption) ?_
        simp only [Act.put, List.getElem_toArray, List.getElem_cons_zero, List.getElem_cons_succ, List.setIfInBounds_toArray, List.set_cons_zero, List.set_cons_succ]
        refine wpAnyH_take (i := 9) (v := undef) rfl (by kernel_rfl) (by kernel_rfl) (by kernel_rfl) (fun _ _ _ h => h) (Or.inr ⟨by rfl, rfl⟩) (by assumption) ?_
        simp only [Act.put, List.getElem_toArray, List.getElem_cons_zero, List.getElem_cons_succ, List.setIfInBounds_toArray, List.set_cons_zero, List.set_cons_succ]
        refine wpAnyH_take (i := 10) (v := undef) rfl (by kernel_rfl) (by kernel_rfl) (by kernel_rfl) (fun _ _ _ h => h) (Or.inr ⟨by rfl, rfl⟩) (by assumption) ?_
        simp only [Act.put, List.getElem_toArray, List.getElem_cons_zero, List.getElem_cons_succ, List.setIfInBounds_toArray, List.set_cons_zero, List.set_cons_succ]
        refine wpAnyH_take (i := 11) (v := undef) rfl (by kernel_rfl) (by kernel_rfl) (by kernel_rfl) (fun _ _ _ h => h) (Or.inr ⟨by rfl, rfl⟩) (by assumption) ?_
        simp only [Act.put, List.getElem_toArray, List.getElem_cons_zero, List.getElem_cons_succ, List.setIfInBounds_toArray, List.set_cons_zero, List.set_cons_succ]
        refine wpAnyH_take (i := 12) (v := ?_) rfl (by kernel_rfl) (by kernel_rfl) (by kernel_rfl) (fun _ _ _ h => h) (Or.inl ⟨by rfl, ?_⟩) (by assumption) ?_
        rotate_left
        · (intro wa hSw; obtain ⟨bx, sn, hb⟩ := OS.out _ hSw; have cb0 := bx.2 0 _ rfl; have cb1 := bx.2 1 _ rfl; have cb2 := bx.2 2 _ rfl; have cb3 := bx.2 3 _ rfl; have cb4 := bx.2 4 _ rfl; go_simp; try with_reducible rfl)
        simp only [Act.put, List.getElem_toArray, List.getElem_cons_zero, List.getElem_cons_succ, List.setIfInBounds_toArray, List.set_cons_zero, List.set_cons_succ]
        refine wpAnyH_done (by kernel_rfl) ?_ _
        obtain ⟨bx, sn, hb⟩ := OS.out _ hHeld101
        clear KS OS hHeld hHeld101
        (try go_wp2)
        go_ret
        exact ⟨rfl, hb⟩
      | true =>
        have hgp := HR2.out.1 rfl
        obtain ⟨⟨n1, n2⟩, ⟨q1, q2⟩, ⟨q3, q4⟩, _⟩ := hgp
        simp only at q1 q2 q3 q4
        obtain ⟨p, rfl⟩ : ∃ p : Nat, x0 = p := ⟨x0.toNat, by omega⟩
        obtain ⟨q, rfl⟩ : ∃ q : Nat, x1 = q := ⟨x1.toNat, by omega⟩
        have p8 : p < 8 := by omega
        have q8 : q < 8 := by omega
        have p8' : (p : Int) < 8 := by omega
        have q8' : (q : Int) < 8 := by omega
        have hpk : pk = ((p * 8 + q : Nat) : Int) := by rw [HPK.out]; simp
        have HSv := Lib.hid (HSm.out _ (by omega) hpk)
        have HEv := Lib.hid (HE.out _ hpk)
        have HPv := Lib.hid (HP.out (HR2.out.1 rfl))
        have HGP := Lib.hid (HR2.out.1 rfl)
        clear HSm HE HP HPK hpk HR2 n1 n2 q1 q2 q3 q4
        obtain ⟨s, HSV⟩ : ∃ s, Hid (M (p * 8 + q) = s) := ⟨_, rfl⟩
        cases s with
        | true =>
          have hf : R = false := HN.out fun h => (HPv.out.1 h.2) (HSv.out.1 HSV.out)
          subst hf
          clear HN HS HEv HPv HSv HGP

          obtain ⟨S, HSd⟩ : ∃ S : World → Prop, S = fun w' => BoxN w' wr.heap.size [.int .i64 (p : Int), .int .i64 (q : Int), .int .i64 x2, .int .i64 x3, .int .i64 x4] ∧ SeenN 64 w' w.heap.size M ∧ Below w.heap.size w w' := ⟨_, rfl⟩
          have KS : Hid (∀ wa wb, S wa → Below wa.heap.size wa wb → S wb) := by subst HSd; exact fun wa wb ⟨bx, sn, hb⟩ b => ⟨bx.below b, sn.below b, hb.trans (b.mono hb.size)⟩
          have OS : Hid (∀ wa, S wa → BoxN wa wr.heap.size [.int .i64 (p : Int), .int .i64 (q : Int), .int .i64 x2, .int .i64 x3, .int .i64 x4] ∧ SeenN 64 wa w.heap.size M ∧ Below w.heap.size w wa) := by subst HSd; exact fun wa h => h
          have KS0 : Hid (S (wr.alloc (.cells #[.int .i64 (p : Int), .int .i64 (q : Int), .int .i64 x2, .int .i64 x3, .int .i64 x4] 76)).drew) := by subst HSd; exact ⟨BX.out.below (Below.refl _ _).drew, SN.out.below (Below.refl _ _).drew, HB2.out.drew⟩
          clear HSd
          go_wp2_with fail
          refine wp_region_held_drew (S := S) (by kernel_rfl) ?_ (fun hHeld => ?_)
          · exact KS0.out
          clear KS0 hb
          refine wpAnyH_take (i := 0) (v := ?_) rfl (by kernel_rfl) (by kernel_rfl) (by kernel_rfl) (fun _ _ _ h => h) (Or.inl ⟨by rfl, ?_⟩) (by assumption) ?_
          rotate_left
          · (intro wa hSw; obtain ⟨bx, sn, hb⟩ := OS.out _ hSw; have cb0 := bx.2 0 _ rfl; have cb1 := bx.2 1 _ rfl; have cb2 := bx.2 2 _ rfl; have cb3 := bx.2 3 _ rfl; have cb4 := bx.2 4 _ rfl; have cs := (sn.2 (p * 8 + q) (by omega)).1; rw [HSV.out] at cs; go_simp; try with_reducible rfl)
          simp only [Act.put, List.getElem_toArray, List.getElem_cons_zero, List.setIfInBounds_toArray, List.set_cons_zero, List.set_cons_succ]
          refine wpAnyH_take (i := 1) (v := ?_) rfl (by kernel_rfl) (by kernel_rfl) (by kernel_rfl) (fun _ _ _ h => h) (Or.inl ⟨by rfl, ?_⟩) (by assumption) ?_
          rotate_left
          · (intro wa hSw; obtain ⟨bx, sn, hb⟩ := OS.out _ hSw; have cb0 := bx.2 0 _ rfl; have cb1 := bx.2 1 _ rfl; have cb2 := bx.2 2 _ rfl; have cb3 := bx.2 3 _ rfl; have cb4 := bx.2 4 _ rfl; have cs := (sn.2 (p * 8 + q) (by omega)).1; rw [HSV.out] at cs; go_simp; try with_reducible rfl)
          simp only [Act.put, List.getElem_toArray, List.getElem_cons_zero, List.getElem_cons_succ, List.setIfInBounds_toArray, List.set_cons_zero, List.set_cons_succ]
          refine wpAnyH_ready (rs := [2]) (by kernel_rfl) (by simp) ?_
          refine AllReadyH.cons (o := _) rfl (fun K hK => ?_) AllReadyH.nil
          go_simp
          obtain ⟨bx, sn, hb⟩ := OS.out _ hHeld
          refine (C.out _).mono ?_
          rintro e w101 ⟨rfl, b101⟩
          clear bx sn hb
          (try go_wp2_with fail)
          refine hK.out _ _ ?_ (fun hHeld101 => ?_)
          · exact KS.out _ _ hHeld b101
          clear hK K
          refine wpAnyH_take (i := 3) (v := ?_) rfl (by kernel_rfl) (by kernel_rfl) (by kernel_rfl) (fun _ _ _ h => h) (Or.inl ⟨by rfl, ?_⟩) (by assumption) ?_
          rotate_left
          · (intro wa hSw; obtain ⟨bx, sn, hb⟩ := OS.out _ hSw; have cb0 := bx.2 0 _ rfl; have cb1 := bx.2 1 _ rfl; have cb2 := bx.2 2 _ rfl; have cb3 := bx.2 3 _ rfl; have cb4 := bx.2 4 _ rfl; have cs := (sn.2 (p * 8 + q) (by omega)).1; rw [HSV.out] at cs; go_simp; try with_reducible rfl)
          simp only [Act.put, List.getElem_toArray, List.getElem_cons_zero, List.getElem_cons_succ, List.setIfInBounds_toArray, List.set_cons_zero, List.set_cons_succ]
          refine wpAnyH_take (i := 4) (v := ?_) rfl (by kernel_rfl) (by kernel_rfl) (by kernel_rfl) (fun _ _ _ h => h) (Or.inl ⟨by rfl, ?_⟩) (by assumption) ?_
          rotate_left
          · (intro wa hSw; obtain ⟨bx, sn, hb⟩ := OS.out _ hSw; have cb0 := bx.2 0 _ rfl; have cb1 := bx.2 1 _ rfl; have cb2 := bx.2 2 _ rfl; have cb3 := bx.2 3 _ rfl; have cb4 := bx.2 4 _ rfl; have cs := (sn.2 (p * 8 + q) (by omega)).1; rw [HSV.out] at cs; go_simp; try with_reducible rfl)
          simp only [Act.put, List.getElem_toArray, List.getElem_cons_zero, List.getElem_cons_succ, List.setIfInBounds_toArray, List.set_cons_zero, List.set_cons_succ]
          refine wpAnyH_take (i := 5) (v := ?_) rfl (by kernel_rfl) (by kernel_rfl) (by kernel_rfl) (fun _ _ _ h => h) (Or.inl ⟨by rfl, ?_⟩) (by assumption) ?_
          rotate_left
          · (intro wa hSw; obtain ⟨bx, sn, hb⟩ := OS.out _ hSw; have cb0 := bx.2 0 _ rfl; have cb1 := bx.2 1 _ rfl; have cb2 := bx.2 2 _ rfl; have cb3 := bx.2 3 _ rfl; have cb4 := bx.2 4 _ rfl; have cs := (sn.2 (p * 8 + q) (by omega)).1; rw [HSV.out] at cs; go_simp; try with_reducible rfl)
          simp only [Act.put, List.getElem_toArray, List.getElem_cons_zero, List.getElem_cons_succ, List.setIfInBounds_toArray, List.set_cons_zero, List.set_cons_succ]
          refine wpAnyH_take (i := 6) (v := ?_) rfl (by kernel_rfl) (by kernel_rfl) (by kernel_rfl) (fun _ _ _ h => h) (Or.inl ⟨by rfl, ?_⟩) (by assumption) ?_
          rotate_left
          · (intro wa hSw; obtain ⟨bx, sn, hb⟩ := OS.out _ hSw; have cb0 := bx.2 0 _ rfl; have cb1 := bx.2 1 _ rfl; have cb2 := bx.2 2 _ rfl; have cb3 := bx.2 3 _ rfl; have cb4 := bx.2 4 _ rfl; have cs := (sn.2 (p * 8 + q) (by omega)).1; rw [HSV.out] at cs; go_simp; try with_reducible rfl)
          simp only [Act.put, List.getElem_toArray, List.getElem_cons_zero, List.getElem_cons_succ, List.setIfInBounds_toArray, List.set_cons_zero, List.set_cons_succ]
          refine wpAnyH_take (i := 7) (v := ?_) rfl (by kernel_rfl) (by kernel_rfl) (by kernel_rfl) (fun _ _ _ h => h) (Or.inl ⟨by rfl, ?_⟩) (by assumption) ?_
          rotate_left
          · (intro wa hSw; obtain ⟨bx, sn, hb⟩ := OS.out _ hSw; have cb0 := bx.2 0 _ rfl; have cb1 := bx.2 1 _ rfl; have cb2 := bx.2 2 _ rfl; have cb3 := bx.2 3 _ rfl; have cb4 := bx.2 4 _ rfl; have cs := (sn.2 (p * 8 + q) (by omega)).1; rw [HSV.out] at cs; go_simp; try with_reducible rfl)
          simp only [Act.put, List.getElem_toArray, List.getElem_cons_zero, List.getElem_cons_succ, List.setIfInBounds_toArray, List.set_cons_zero, List.set_cons_succ]
          refine wpAnyH_take (i := 8) (v := ?_) rfl (by kernel_rfl) (by kernel_rfl) (by kernel_rfl) (fun _ _ _ h => h) (Or.inl ⟨by rfl, ?_⟩) (by assumption) ?_
          rotate_left
          · (intro wa hSw; obtain ⟨bx, sn, hb⟩ := OS.out _ hSw; have cb0 := bx.2 0 _ rfl; have cb1 := bx.2 1 _ rfl; have cb2 := bx.2 2 _ rfl; have cb3 := bx.2 3 _ rfl; have cb4 := bx.2 4 _ rfl; have cs := (sn.2 (p * 8 + q) (by omega)).1; rw [HSV.out] at cs; go_simp; try with_reducible rfl)
          simp only [Act.put, List.getElem_toArray, List.getElem_cons_zero, List.getElem_cons_succ, List.setIfInBounds_toArray, List.set_cons_zero, List.set_cons_succ]
          refine wpAnyH_take (i := 9) (v := ?_) rfl (by kernel_rfl) (by kernel_rfl) (by kernel_rfl) (fun _ _ _ h => h) (Or.inl ⟨by rfl, ?_⟩) (by assumption) ?_
          rotate_left
          · (intro wa hSw; obtain ⟨bx, sn, hb⟩ := OS.out _ hSw; have cb0 := bx.2 0 _ rfl; have cb1 := bx.2 1 _ rfl; have cb2 := bx.2 2 _ rfl; have cb3 := bx.2 3 _ rfl; have cb4 := bx.2 4 _ rfl; have cs := (sn.2 (p * 8 + q) (by omega)).1; rw [HSV.out] at cs; go_simp; try with_reducible rfl)
          simp only [Act.put, List.getElem_toArray, List.getElem_cons_zero, List.getElem_cons_succ, List.setIfInBounds_toArray, List.set_cons_zero, List.set_cons_succ]
          refine wpAnyH_take (i := 10) (v := ?_) rfl (by kernel_rfl) (by kernel_rfl) (by kernel_rfl) (fun _ _ _ h => h) (Or.inl ⟨by rfl, ?_⟩) (by assumption) ?_
          rotate_left
          · (intro wa hSw; obtain ⟨bx, sn, hb⟩ := OS.out _ hSw; have cb0 := bx.2 0 _ rfl; have cb1 := bx.2 1 _ rfl; have cb2 := bx.2 2 _ rfl; have cb3 := bx.2 3 _ rfl; have cb4 := bx.2 4 _ rfl; have cs := (sn.2 (p * 8 + q) (by omega)).1; rw [HSV.out] at cs; go_simp; try with_reducible rfl)
          simp only [Act.put, List.getElem_toArray, List.getElem_cons_zero, List.getElem_cons_succ, List.setIfInBounds_toArray, List.set_cons_zero, List.set_cons_succ]
          refine wpAnyH_take (i := 11) (v := ?_) rfl (by kernel_rfl) (by kernel_rfl) (by kernel_rfl) (fun _ _ _ h => h) (Or.inl ⟨by rfl, ?_⟩) (by assumption) ?_
          rotate_left
          · (intro wa hSw; obtain ⟨bx, sn, hb⟩ := OS.out _ hSw; have cb0 := bx.2 0 _ rfl; have cb1 := bx.2 1 _ rfl; have cb2 := bx.2 2 _ rfl; have cb3 := bx.2 3 _ rfl; have cb4 := bx.2 4 _ rfl; have cs := (sn.2 (p * 8 + q) (by omega)).1; rw [HSV.out] at cs; go_simp; try with_reducible rfl)
          simp only [Act.put, List.getElem_toArray, List.getElem_cons_zero, List.getElem_cons_succ, List.setIfInBounds_toArray, List.set_cons_zero, List.set_cons_succ]
          refine wpAnyH_take (i := 12) (v := ?_) rfl (by kernel_rfl) (by kernel_rfl) (by kernel_rfl) (fun _ _ _ h => h) (Or.inl ⟨by rfl, ?_⟩) (by assumption) ?_
          rotate_left
          · (intro wa hSw; obtain ⟨bx, sn, hb⟩ := OS.out _ hSw; have cb0 := bx.2 0 _ rfl; have cb1 := bx.2 1 _ rfl; have cb2 := bx.2 2 _ rfl; have cb3 := bx.2 3 _ rfl; have cb4 := bx.2 4 _ rfl; have cs := (sn.2 (p * 8 + q) (by omega)).1; rw [HSV.out] at cs; go_simp; try with_reducible rfl)
          simp only [Act.put, List.getElem_toArray, List.getElem_cons_zero, List.getElem_cons_succ, List.setIfInBounds_toArray, List.set_cons_zero, List.set_cons_succ]
          refine wpAnyH_done (by kernel_rfl) ?_ _
          obtain ⟨bx, sn, hb⟩ := OS.out _ hHeld101
          clear KS OS hHeld hHeld101
          (try go_wp2)
          go_ret
          exact ⟨rfl, hb⟩
        | false =>
          have HX := Lib.hid (HS.out ⟨HGP.out, HPv.out.2 fun h => by have := HSv.out.2 h; rw [HSV.out] at this; cases this⟩)
          clear HN HS HPv HSv HGP

          obtain ⟨S, HSd⟩ : ∃ S : World → Prop, S = fun w' => BoxN w' wr.heap.size [.int .i64 (p : Int), .int .i64 (q : Int), .int .i64 x2, .int .i64 x3, .int .i64 x4] ∧ SeenN 64 w' w.heap.size M ∧ Below w.heap.size w w' := ⟨_, rfl⟩
          have KS : Hid (∀ wa wb, S wa → Below wa.heap.size wa wb → S wb) := by subst HSd; exact fun wa wb ⟨bx, sn, hb⟩ b => ⟨bx.below b, sn.below b, hb.trans (b.mono hb.size)⟩
          have OS : Hid (∀ wa, S wa → BoxN wa wr.heap.size [.int .i64 (p : Int), .int .i64 (q : Int), .int .i64 x2, .int .i64 x3, .int .i64 x4] ∧ SeenN 64 wa w.heap.size M ∧ Below w.heap.size w wa) := by subst HSd; exact fun wa h => h
          have KS0 : Hid (S (wr.alloc (.cells #[.int .i64 (p : Int), .int .i64 (q : Int), .int .i64 x2, .int .i64 x3, .int .i64 x4] 76)).drew) := by subst HSd; exact ⟨BX.out.below (Below.refl _ _).drew, SN.out.below (Below.refl _ _).drew, HB2.out.drew⟩
          clear HSd
          go_wp2_with fail
          refine wp_region_held_drew (S := S) (by kernel_rfl) ?_ (fun hHeld => ?_)
          · exact KS0.out
          clear KS0 hb
          refine wpAnyH_take (i := 0) (v := ?_) rfl (by kernel_rfl) (by kernel_rfl) (by kernel_rfl) (fun _ _ _ h => h) (Or.inl ⟨by rfl, ?_⟩) (by assumption) ?_
          rotate_left
          · (intro wa hSw; obtain ⟨bx, sn, hb⟩ := OS.out _ hSw; have cb0 := bx.2 0 _ rfl; have cb1 := bx.2 1 _ rfl; have cb2 := bx.2 2 _ rfl; have cb3 := bx.2 3 _ rfl; have cb4 := bx.2 4 _ rfl; have cs := (sn.2 (p * 8 + q) (by omega)).1; rw [HSV.out] at cs; go_simp; try with_reducible rfl)
          simp only [Act.put, List.getElem_toArray, List.getElem_cons_zero, List.setIfInBounds_toArray, List.set_cons_zero, List.set_cons_succ]
          refine wpAnyH_take (i := 1) (v := ?_) rfl (by kernel_rfl) (by kernel_rfl) (by kernel_rfl) (fun _ _ _ h => h) (Or.inl ⟨by rfl, ?_⟩) (by assumption) ?_
          rotate_left
          · (intro wa hSw; obtain ⟨bx, sn, hb⟩ := OS.out _ hSw; have cb0 := bx.2 0 _ rfl; have cb1 := bx.2 1 _ rfl; have cb2 := bx.2 2 _ rfl; have cb3 := bx.2 3 _ rfl; have cb4 := bx.2 4 _ rfl; have cs := (sn.2 (p * 8 + q) (by omega)).1; rw [HSV.out] at cs; go_simp; try with_reducible rfl)
          simp only [Act.put, List.getElem_toArray, List.getElem_cons_zero, List.getElem_cons_succ, List.setIfInBounds_toArray, List.set_cons_zero, List.set_cons_succ]
          refine wpAnyH_ready (rs := [2]) (by kernel_rfl) (by simp) ?_
          refine AllReadyH.cons (o := _) rfl (fun K hK => ?_) AllReadyH.nil
          go_simp
          obtain ⟨bx, sn, hb⟩ := OS.out _ hHeld
          refine (C.out _).mono ?_
          rintro e w101 ⟨rfl, b101⟩
          clear bx sn hb
          (try go_wp2_with fail)
          refine hK.out _ _ ?_ (fun hHeld101 => ?_)
          · exact KS.out _ _ hHeld b101
          clear hK K
          refine wpAnyH_take (i := 3) (v := ?_) rfl (by kernel_rfl) (by kernel_rfl) (by kernel_rfl) (fun _ _ _ h => h) (Or.inl ⟨by rfl, ?_⟩) (by assumption) ?_
          rotate_left
          · (intro wa hSw; obtain ⟨bx, sn, hb⟩ := OS.out _ hSw; have cb0 := bx.2 0 _ rfl; have cb1 := bx.2 1 _ rfl; have cb2 := bx.2 2 _ rfl; have cb3 := bx.2 3 _ rfl; have cb4 := bx.2 4 _ rfl; have cs := (sn.2 (p * 8 + q) (by omega)).1; rw [HSV.out] at cs; go_simp; try with_reducible rfl)
          simp only [Act.put, List.getElem_toArray, List.getElem_cons_zero, List.getElem_cons_succ, List.setIfInBounds_toArray, List.set_cons_zero, List.set_cons_succ]
          refine wpAnyH_take (i := 4) (v := ?_) rfl (by kernel_rfl) (by kernel_rfl) (by kernel_rfl) (fun _ _ _ h => h) (Or.inl ⟨by rfl, ?_⟩) (by assumption) ?_
          rotate_left
          · (intro wa hSw; obtain ⟨bx, sn, hb⟩ := OS.out _ hSw; have cb0 := bx.2 0 _ rfl; have cb1 := bx.2 1 _ rfl; have cb2 := bx.2 2 _ rfl; have cb3 := bx.2 3 _ rfl; have cb4 := bx.2 4 _ rfl; have cs := (sn.2 (p * 8 + q) (by omega)).1; rw [HSV.out] at cs; go_simp; try with_reducible rfl)
          simp only [Act.put, List.getElem_toArray, List.getElem_cons_zero, List.getElem_cons_succ, List.setIfInBounds_toArray, List.set_cons_zero, List.set_cons_succ]
          refine wpAnyH_take (i := 5) (v := ?_) rfl (by kernel_rfl) (by kernel_rfl) (by kernel_rfl) (fun _ _ _ h => h) (Or.inl ⟨by rfl, ?_⟩) (by assumption) ?_
          rotate_left
          · (intro wa hSw; obtain ⟨bx, sn, hb⟩ := OS.out _ hSw; have cb0 := bx.2 0 _ rfl; have cb1 := bx.2 1 _ rfl; have cb2 := bx.2 2 _ rfl; have cb3 := bx.2 3 _ rfl; have cb4 := bx.2 4 _ rfl; have cs := (sn.2 (p * 8 + q) (by omega)).1; rw [HSV.out] at cs; go_simp; try with_reducible rfl)
          simp only [Act.put, List.getElem_toArray, List.getElem_cons_zero, List.getElem_cons_succ, List.setIfInBounds_toArray, List.set_cons_zero, List.set_cons_succ]
          refine wpAnyH_take (i := 6) (v := ?_) rfl (by kernel_rfl) (by kernel_rfl) (by kernel_rfl) (fun _ _ _ h => h) (Or.inl ⟨by rfl, ?_⟩) (by assumption) ?_
          rotate_left
          · (intro wa hSw; obtain ⟨bx, sn, hb⟩ := OS.out _ hSw; have cb0 := bx.2 0 _ rfl; have cb1 := bx.2 1 _ rfl; have cb2 := bx.2 2 _ rfl; have cb3 := bx.2 3 _ rfl; have cb4 := bx.2 4 _ rfl; have cs := (sn.2 (p * 8 + q) (by omega)).1; rw [HSV.out] at cs; go_simp; try with_reducible rfl)
          simp only [Act.put, List.getElem_toArray, List.getElem_cons_zero, List.getElem_cons_succ, List.setIfInBounds_toArray, List.set_cons_zero, List.set_cons_succ]
          refine wpAnyH_take (i := 7) (v := ?_) rfl (by kernel_rfl) (by kernel_rfl) (by kernel_rfl) (fun _ _ _ h => h) (Or.inl ⟨by rfl, ?_⟩) (by assumption) ?_
          rotate_left
          · (intro wa hSw; obtain ⟨bx, sn, hb⟩ := OS.out _ hSw; have cb0 := bx.2 0 _ rfl; have cb1 := bx.2 1 _ rfl; have cb2 := bx.2 2 _ rfl; have cb3 := bx.2 3 _ rfl; have cb4 := bx.2 4 _ rfl; have cs := (sn.2 (p * 8 + q) (by omega)).1; rw [HSV.out] at cs; go_simp; try with_reducible rfl)
          simp only [Act.put, List.getElem_toArray, List.getElem_cons_zero, List.getElem_cons_succ, List.setIfInBounds_toArray, List.set_cons_zero, List.set_cons_succ]
          refine wpAnyH_take (i := 8) (v := ?_) rfl (by kernel_rfl) (by kernel_rfl) (by kernel_rfl) (fun _ _ _ h => h) (Or.inl ⟨by rfl, ?_⟩) (by assumption) ?_
          rotate_left
          · (intro wa hSw; obtain ⟨bx, sn, hb⟩ := OS.out _ hSw; have cb0 := bx.2 0 _ rfl; have cb1 := bx.2 1 _ rfl; have cb2 := bx.2 2 _ rfl; have cb3 := bx.2 3 _ rfl; have cb4 := bx.2 4 _ rfl; have cs := (sn.2 (p * 8 + q) (by omega)).1; rw [HSV.out] at cs; go_simp; try with_reducible rfl)
          simp only [Act.put, List.getElem_toArray, List.getElem_cons_zero, List.getElem_cons_succ, List.setIfInBounds_toArray, List.set_cons_zero, List.set_cons_succ]
          refine wpAnyH_take (i := 9) (v := ?_) rfl (by kernel_rfl) (by kernel_rfl) (by kernel_rfl) (fun _ _ _ h => h) (Or.inl ⟨by rfl, ?_⟩) (by assumption) ?_
          rotate_left
          · (intro wa hSw; obtain ⟨bx, sn, hb⟩ := OS.out _ hSw; have cb0 := bx.2 0 _ rfl; have cb1 := bx.2 1 _ rfl; have cb2 := bx.2 2 _ rfl; have cb3 := bx.2 3 _ rfl; have cb4 := bx.2 4 _ rfl; have cs := (sn.2 (p * 8 + q) (by omega)).1; rw [HSV.out] at cs; go_simp; try with_reducible rfl)
          simp only [Act.put, List.getElem_toArray, List.getElem_cons_zero, List.getElem_cons_succ, List.setIfInBounds_toArray, List.set_cons_zero, List.set_cons_succ]
          refine wpAnyH_take (i := 10) (v := ?_) rfl (by kernel_rfl) (by kernel_rfl) (by kernel_rfl) (fun _ _ _ h => h) (Or.inl ⟨by rfl, ?_⟩) (by assumption) ?_
          rotate_left
          · (intro wa hSw; obtain ⟨bx, sn, hb⟩ := OS.out _ hSw; have cb0 := bx.2 0 _ rfl; have cb1 := bx.2 1 _ rfl; have cb2 := bx.2 2 _ rfl; have cb3 := bx.2 3 _ rfl; have cb4 := bx.2 4 _ rfl; have cs := (sn.2 (p * 8 + q) (by omega)).1; rw [HSV.out] at cs; go_simp; try with_reducible rfl)
          simp only [Act.put, List.getElem_toArray, List.getElem_cons_zero, List.getElem_cons_succ, List.setIfInBounds_toArray, List.set_cons_zero, List.set_cons_succ]
          refine wpAnyH_take (i := 11) (v := ?_) rfl (by kernel_rfl) (by kernel_rfl) (by kernel_rfl) (fun _ _ _ h => h) (Or.inl ⟨by rfl, ?_⟩) (by assumption) ?_
          rotate_left
          · (intro wa hSw; obtain ⟨bx, sn, hb⟩ := OS.out _ hSw; have cb0 := bx.2 0 _ rfl; have cb1 := bx.2 1 _ rfl; have cb2 := bx.2 2 _ rfl; have cb3 := bx.2 3 _ rfl; have cb4 := bx.2 4 _ rfl; have cs := (sn.2 (p * 8 + q) (by omega)).1; rw [HSV.out] at cs; go_simp; try with_reducible rfl)
          simp only [Act.put, List.getElem_toArray, List.getElem_cons_zero, List.getElem_cons_succ, List.setIfInBounds_toArray, List.set_cons_zero, List.set_cons_succ]
          refine wpAnyH_take (i := 12) (v := ?_) rfl (by kernel_rfl) (by kernel_rfl) (by kernel_rfl) (fun _ _ _ h => h) (Or.inl ⟨by rfl, ?_⟩) (by assumption) ?_
          rotate_left
          · (intro wa hSw; obtain ⟨bx, sn, hb⟩ := OS.out _ hSw; have cb0 := bx.2 0 _ rfl; have cb1 := bx.2 1 _ rfl; have cb2 := bx.2 2 _ rfl; have cb3 := bx.2 3 _ rfl; have cb4 := bx.2 4 _ rfl; have cs := (sn.2 (p * 8 + q) (by omega)).1; rw [HSV.out] at cs; go_simp; try with_reducible rfl)
          simp only [Act.put, List.getElem_toArray, List.getElem_cons_zero, List.getElem_cons_succ, List.setIfInBounds_toArray, List.set_cons_zero, List.set_cons_succ]
          refine wpAnyH_done (by kernel_rfl) ?_ _
          obtain ⟨bx, sn, hb⟩ := OS.out _ hHeld101
          clear KS OS hHeld hHeld101
          have HX2 := Lib.hid bx
          have cb0 := bx.2 0 _ rfl
          have cb1 := bx.2 1 _ rfl
          have SN2 := Lib.hid (sn.set (p * 8 + q) (by omega))
          have hl := sn.1
          obtain ⟨cs, fz⟩ := sn.2 (p * 8 + q) (by omega)
          clear bx sn
          go_wp2_with fail
          go_region
          all_goals (try go_wp2)
          all_goals go_roundw
          case rel => exact ⟨k + 1, _, by omega, by go_num, HX.out, SN2.out, HEv.out, (hb.setCell (p := ⟨w.heap.size, p * 8 + q, none⟩) (Nat.le_refl _) _).drew⟩
          case measure => simp [RowKit.intOf]; omega
    · obtain rfl : k = m := by omega
      obtain rfl := HYES.out hok.out
      clear HNO HYES hok hS hSk
      go_wp2
      go_ret
      exact ⟨rfl, hb⟩
end Go.Proofs.YteciobkjfmddcaaDoor
set_option linter.unusedVariables false
namespace Go.Proofs.YteciobkjfmddcaaDoor
open Go.RowKit

def IsRow (k : IntKind) (w : World) (a : Option Addr) (len cap : Nat) (zs : List Int) : Prop :=
  (a = none ∧ len = 0 ∧ cap = 0 ∧ zs = []) ∨
  ∃ x, a = some x ∧ len ≤ cap ∧ cap ≤ maxLen ∧ zs.length = cap ∧ (∀ i, i < zs.length → w.cell? (x.add i) = some (.int k (zs.getD i 0))) ∧ ∀ n ∈ zs, (Lit.int k n).wf = true
def ByteRow (w : World) (a : Option Addr) (len : Nat) (g : Nat → Nat) : Prop :=
  0 < len → ∃ b off, a = some ⟨b, off, none⟩ ∧ ∀ i, i < len → w.cell? ⟨b, off + i, none⟩ = some (.int .u8 (g i))
def getN (zs : List Int) (i : Nat) : Nat := (zs.getD i 0).toNat
theorem IsRow.bytes {w : World} {a : Option Addr} {len cap : Nat} {zs : List Int} (h : IsRow .u8 w a len cap zs) : ByteRow w a len (getN zs) ∧ (∀ i, getN zs i ≤ 255) ∧ len ≤ 9223372036854775807 := by
  rcases h with ⟨rfl, rfl, rfl, rfl⟩ | ⟨x, rfl, hl, hm, hz, hc, hw⟩
  · exact ⟨fun h => absurd h (by omega), fun i => by simp [getN], by omega⟩
  · have key : ∀ i, 0 ≤ zs.getD i 0 ∧ zs.getD i 0 ≤ 255 := by
      intro i
      by_cases hi : i < zs.length
      · have := hw zs[i] (List.getElem_mem hi)
        simp [Lit.wf, IntKind.min, IntKind.max, IntKind.signed, IntKind.bits] at this
        simp [List.getD, List.getElem?_eq_getElem hi]; omega
      · simp [List.getD, List.getElem?_eq_none (Nat.le_of_not_lt hi)]
    refine ⟨fun h0 => ?_, fun i => by have := key i; unfold getN; omega, by unfold maxLen at hm; omega⟩
    obtain ⟨b, off, spot⟩ := x
    have hc0 := hc 0 (by omega)
    have hspot : spot = none := by simpa [Addr.add] using World.cell?_spot hc0
    subst hspot
    refine ⟨b, off, rfl, fun i hi => ?_⟩
    have h1 := hc i (by omega)
    have hadd : (⟨b, off, none⟩ : Addr).add i = ⟨b, off + i, none⟩ := by unfold Addr.add; split <;> simp_all
    rw [hadd] at h1
    rw [h1]
    have := key i
    unfold getN
    congr 2
    omega
theorem ByteRow.below {w w' : World} {a : Option Addr} {len B : Nat} {g : Nat → Nat} (h : ByteRow w a len g) (hb : Below B w w') (hB : w.heap.size ≤ B) : ByteRow w' a len g := by
  intro h0
  obtain ⟨b, off, h1, h2⟩ := h h0
  exact ⟨b, off, h1, fun i hi => (hb.cell (p := ⟨b, off + i, none⟩) (Nat.lt_of_lt_of_le (World.block_lt_of_cell? w _ (h2 i hi)) hB)).trans (h2 i hi)⟩

theorem set2 {w : World} {B : Nat} {s x y : Value} {T : TypeId} (z : Value) (h : w.heap[B]? = some (.cells #[s, x, y] T (0, 0))) : (w.setCell ⟨B, 2, none⟩ z).heap[B]? = some (.cells #[s, x, z] T (0, 0)) := by
  rw [heap_setCell_same w B 2 _ _ _ h]; rfl
theorem set1 {w : World} {B : Nat} {s x y : Value} {T : TypeId} (z : Value) (h : w.heap[B]? = some (.cells #[s, x, y] T (0, 0))) : (w.setCell ⟨B, 1, none⟩ z).heap[B]? = some (.cells #[s, z, y] T (0, 0)) := by
  rw [heap_setCell_same w B 1 _ _ _ h]; rfl
theorem grown_set (w : World) (B j : Nat) (z : Value) : w.grownBy (w.setCell ⟨B, j, none⟩ z) (some B) :=
  ⟨rfl, rfl, rfl, by simp, fun k _ hk => heap_setCell_other w ⟨B, j, none⟩ k z (fun e => hk (by simp [e]))⟩
theorem grown_trans {a b c : World} {row : Option Nat} (h : a.grownBy b row) (k : b.grownBy c row) : a.grownBy c row :=
  ⟨k.os.trans h.os, k.tape.trans h.tape, k.output.trans h.output, Nat.le_trans h.size k.size, fun i hi hne => (k.block i (Nat.lt_of_lt_of_le hi h.size) hne).trans (h.block i hi hne)⟩
theorem grown_drewN {a b : World} {row : Option Nat} (h : a.grownBy b row) (q : Nat) : a.grownBy (b.drewN q) row := ⟨h.os, h.tape, h.output, h.size, h.block⟩
theorem grown_refl (a : World) (row : Option Nat) : a.grownBy a row := ⟨rfl, rfl, rfl, Nat.le_refl _, fun _ _ _ => rfl⟩
theorem ByteRow.grown {w w' : World} {a : Option Addr} {len B : Nat} {g : Nat → Nat} (h : ByteRow w a len g) (hg : w.grownBy w' (some B)) (hl : 0 < len → ∀ b off, a = some ⟨b, off, none⟩ → b < B) : ByteRow w' a len g := by
  intro h0
  obtain ⟨b, off, h1, h2⟩ := h h0
  refine ⟨b, off, h1, fun i hi => hg.cell (h2 i hi) ?_⟩
  have := hl h0 b off h1
  intro e
  simp at e; omega
theorem and_mask (z : Int) (m : Nat) (hm : m < 2147483648) : ∃ n : Nat, n ≤ m ∧ bits .and .i64 z (m : Int) = (n : Int) := by
  refine ⟨((BitVec.ofInt 64 z) &&& (BitVec.ofInt 64 (m : Int))).toNat, ?_, ?_⟩
  · rw [BitVec.toNat_and, BitVec.ofInt_natCast, BitVec.toNat_ofNat, Nat.mod_eq_of_lt (by omega)]
    exact Nat.and_le_right
  · have h : ((BitVec.ofInt 64 z) &&& (BitVec.ofInt 64 (m : Int))).toNat ≤ m := by
      rw [BitVec.toNat_and, BitVec.ofInt_natCast, BitVec.toNat_ofNat, Nat.mod_eq_of_lt (by omega)]
      exact Nat.and_le_right
    simp only [bits]
    rw [IntKind.wrap_i64]
    show (((((BitVec.ofInt 64 z) &&& (BitVec.ofInt 64 (m : Int))).toNat : Nat) : Int) + 9223372036854775808) % 18446744073709551616 - 9223372036854775808 = _
    omega
theorem and255 (z : Int) : ∃ n : Nat, n ≤ 255 ∧ bits .and .i64 z 255 = (n : Int) := and_mask z 255 (by decide)

def mtL : Nat → ByteArray
  | 0 => ⟨#[97]⟩
  | 1 => ⟨#[98, 99]⟩
  | 2 => ⟨#[32]⟩
  | 3 => ⟨#[44]⟩
  | _ => ⟨#[120, 49]⟩
theorem mtL_size (i : Nat) : (mtL i).size ≤ 2 := by
  match i with
  | 0 => decide
  | 1 => decide
  | 2 => decide
  | 3 => decide
  | n + 4 => show (2 : Nat) ≤ 2; omega
end Go.Proofs.YteciobkjfmddcaaDoor
set_option linter.unusedVariables false
namespace Go.Proofs.YteciobkjfmddcaaDoor
open Go.RowKit

theorem IsRow.ints {w : World} {a : Option Addr} {len cap : Nat} {zs : List Int} (h : IsRow .i64 w a len cap zs) : IntRow w (.slice a len cap) len (getI zs) ∧ len ≤ 9223372036854775807 := by
  rcases h with ⟨rfl, rfl, rfl, rfl⟩ | ⟨x, rfl, hl, hm, hz, hc, _⟩
  · exact ⟨.inl ⟨_, _, rfl, rfl⟩, by omega⟩
  · unfold maxLen at hm
    refine ⟨?_, by omega⟩
    by_cases h0 : len = 0
    · subst h0; exact .inl ⟨_, _, rfl, rfl⟩
    · obtain ⟨b, off, spot⟩ := x
      have hspot : spot = none := by simpa [Addr.add] using World.cell?_spot (hc 0 (by omega))
      subst hspot
      refine .inr ⟨b, off, cap, rfl, by omega, by omega, fun i hi => ?_, hl⟩
      have hadd : (⟨b, off, none⟩ : Addr).add i = ⟨b, off + i, none⟩ := by unfold Addr.add; split <;> simp_all
      rw [← hadd]
      exact hc i (by omega)

def Seen8 (w : World) (B : Nat) (S : Nat → Bool) : Prop := B < w.heap.size ∧ ∀ j, j < 8 → w.cell? ⟨B, j, none⟩ = some (.bool (S j)) ∧ w.frozen? ⟨B, j, none⟩ = false
theorem Seen8.made (w : World) (t : TypeId) : Seen8 (w.alloc (.cells #[.bool false, .bool false, .bool false, .bool false, .bool false, .bool false, .bool false, .bool false] t)) w.heap.size (fun _ => false) := by
  refine ⟨by simp, fun j hj => ⟨?_, ?_⟩⟩
  · rw [cell_of_row _ w.heap.size j _ t (0, 0) (heap_alloc_new w _)]
    have : j = 0 ∨ j = 1 ∨ j = 2 ∨ j = 3 ∨ j = 4 ∨ j = 5 ∨ j = 6 ∨ j = 7 := by omega
    rcases this with rfl | rfl | rfl | rfl | rfl | rfl | rfl | rfl <;> rfl
  · exact frozen_of_row _ w.heap.size j _ t (heap_alloc_new w _)
theorem Seen8.set {w : World} {B : Nat} {S : Nat → Bool} (h : Seen8 w B S) (m : Nat) (hm : m < 8) : Seen8 (w.setCell ⟨B, m, none⟩ (.bool true)) B (fun j => S j || decide (j = m)) := by
  refine ⟨by simpa [World.setCell] using h.1, fun j hj => ⟨?_, (World.frozen?_setCell _ _ _ _).trans (h.2 j hj).2⟩⟩
  by_cases hjm : j = m
  · subst hjm
    rw [World.cell?_setCell_same' _ _ _ (by rw [(h.2 j hj).1]; rfl)]
    simp
  · rw [World.cell?_setCell_other _ _ _ _ (by intro e; simp only [Addr.mk.injEq] at e; omega), (h.2 j hj).1]
    simp [hjm]
end Go.Proofs.YteciobkjfmddcaaDoor
set_option linter.unusedVariables false
namespace Go.Proofs.YteciobkjfmddcaaDoor
open Go.RowKit

theorem placeI_pos (g : Nat → Int) (x : Int) (r : Nat) : ∀ k, 0 ≤ placeI g x r k ↔ ∃ j, k ≤ j ∧ j < k + r ∧ g j = x := by
  induction r with
  | zero => intro k; unfold placeI; constructor
            · intro h; omega
            · rintro ⟨j, h1, h2, _⟩; omega
  | succ r ih =>
    intro k
    unfold placeI
    by_cases h : g k = x
    · rw [if_pos h]
      exact ⟨fun _ => ⟨k, Nat.le_refl _, by omega, h⟩, fun _ => by omega⟩
    · rw [if_neg h, ih (k + 1)]
      constructor
      · rintro ⟨j, h1, h2, h3⟩; exact ⟨j, by omega, by omega, h3⟩
      · rintro ⟨j, h1, h2, h3⟩
        refine ⟨j, ?_, by omega, h3⟩
        rcases Nat.lt_or_ge k j with h4 | h4
        · omega
        · obtain rfl : j = k := by omega
          exact absurd h3 h
theorem placeI_has (g : Nat → Int) (x : Int) (n : Nat) : 0 ≤ placeI g x n 0 ↔ hasP g x n := by
  rw [placeI_pos]
  constructor
  · rintro ⟨j, _, h2, h3⟩; exact ⟨j, by omega, h3⟩
  · rintro ⟨j, h2, h3⟩; exact ⟨j, by omega, by omega, h3⟩
theorem rulesOk_impl (win draw loss : Int) (ag R : Bool) (v : Value) (n : Nat) (g : Nat → Int) (w : World) (hR : R = true ↔ rulesP win draw loss n g) (h : IntRow w v n g) :
    Calls Tryd.prog 46 #[.agg #[.int .i64 win, .int .i64 draw, .int .i64 loss, v, .bool ag]] w fun e w' => e = .returned (.bool R) ∧ Below w.heap.size w w' := by
  by_cases hasc : 0 ≤ loss ∧ loss ≤ draw ∧ draw ≤ win ∧ win ≤ 10
  · obtain ⟨h1, h2, h3, h4⟩ := hasc
    have g1 : decide (0 ≤ loss) = true := decide_eq_true h1
    have g2 : decide (loss ≤ draw) = true := decide_eq_true h2
    have g3 : decide (draw ≤ win) = true := decide_eq_true h3
    have g4 : decide (win ≤ 10) = true := decide_eq_true h4
    have hR' : R = true ↔ ladP n g := by
      rw [hR]; unfold rulesP
      exact ⟨fun h => h.2.2.2, fun h => ⟨by omega, by omega, by omega, h⟩⟩
    have C := Lib.hid (fun w1 h1 => isLadder_impl n g R v w1 hR' h1)
    have HW := Lib.hid h
    clear hR hR' h
    go_enter Tryd.func46, Tryd.ntmps46
    go_wp2_with fail
    refine (C.out _ (HW.out.below ((Below.refl _ w).alloc (Nat.le_refl _) _) (Nat.le_refl _))).mono ?_
    rintro e w1 ⟨rfl, b1⟩
    go_wp2
    go_ret
    exact ⟨rfl, ((Below.refl _ w).alloc (Nat.le_refl _) _).trans (b1.mono (by simp))⟩
  · have hf : R = false := by
      cases R with
      | false => rfl
      | true => obtain ⟨⟨_, h1⟩, ⟨_, h2⟩, ⟨h3, h4⟩, _⟩ := hR.1 rfl
                exact absurd ⟨h3, h4, h2, h1⟩ hasc
    subst hf
    clear hR
    have g0 : decide (0 ≤ loss) = false ∨ (decide (0 ≤ loss) = true ∧ decide (loss ≤ draw) = false) ∨ (decide (0 ≤ loss) = true ∧ decide (loss ≤ draw) = true ∧ decide (draw ≤ win) = false) ∨
        (decide (0 ≤ loss) = true ∧ decide (loss ≤ draw) = true ∧ decide (draw ≤ win) = true ∧ decide (win ≤ 10) = false) := by
      simp only [decide_eq_true_eq, decide_eq_false_iff_not]; omega
    clear hasc
    rcases g0 with g1 | ⟨g1, g2⟩ | ⟨g1, g2, g3⟩ | ⟨g1, g2, g3, g4⟩
    all_goals
      go_enter Tryd.func46, Tryd.ntmps46
      go_wp2
      go_ret
      exact ⟨rfl, (Below.refl _ w).alloc (Nat.le_refl _) _⟩
theorem cells5 {w w2 : World} {t : TypeId} {a b c d f : Value} (h : Below (w.alloc (.cells #[a, b, c, d, f] t)).heap.size (w.alloc (.cells #[a, b, c, d, f] t)) w2) :
    w2.cell? ⟨w.heap.size, 0, none⟩ = some a ∧ w2.cell? ⟨w.heap.size, 1, none⟩ = some b ∧ w2.cell? ⟨w.heap.size, 2, none⟩ = some c ∧ w2.cell? ⟨w.heap.size, 3, none⟩ = some d ∧ w2.cell? ⟨w.heap.size, 4, none⟩ = some f := by
  have k : ∀ j, w2.cell? ⟨w.heap.size, j, none⟩ = #[a, b, c, d, f][j]? := fun j => by
    rw [h.cell (p := ⟨w.heap.size, j, none⟩) (by simp), cell_of_row _ w.heap.size j _ t (0, 0) (heap_alloc_new w _)]
  exact ⟨k 0, k 1, k 2, k 3, k 4⟩
theorem cells5_below {w w2 : World} {B : Nat} {a b c d f : Value} (k : w.cell? ⟨B, 0, none⟩ = some a ∧ w.cell? ⟨B, 1, none⟩ = some b ∧ w.cell? ⟨B, 2, none⟩ = some c ∧ w.cell? ⟨B, 3, none⟩ = some d ∧ w.cell? ⟨B, 4, none⟩ = some f) (h : Below w.heap.size w w2) :
    w2.cell? ⟨B, 0, none⟩ = some a ∧ w2.cell? ⟨B, 1, none⟩ = some b ∧ w2.cell? ⟨B, 2, none⟩ = some c ∧ w2.cell? ⟨B, 3, none⟩ = some d ∧ w2.cell? ⟨B, 4, none⟩ = some f := by
  have hb : B < w.heap.size := World.block_lt_of_cell? w _ k.1
  exact ⟨(h.cell (p := ⟨B, 0, none⟩) hb).trans k.1, (h.cell (p := ⟨B, 1, none⟩) hb).trans k.2.1, (h.cell (p := ⟨B, 2, none⟩) hb).trans k.2.2.1, (h.cell (p := ⟨B, 3, none⟩) hb).trans k.2.2.2.1, (h.cell (p := ⟨B, 4, none⟩) hb).trans k.2.2.2.2⟩
def decisiveP (win draw loss : Int) (n : Nat) (g : Nat → Int) : Prop := rulesP win draw loss n g ∧ hasP g 8 n
end Go.Proofs.YteciobkjfmddcaaDoor
set_option linter.unusedVariables false
namespace Go.Proofs.YteciobkjfmddcaaDoor
open Go.RowKit

theorem side_home (win draw loss : Int) (x : GameD) (h : (goalsD x).2.2 = true) : homeR win draw loss x = sideR win draw loss (goalsD x).1 (goalsD x).2.1 ∧ awayR win draw loss x = sideR win draw loss (goalsD x).2.1 (goalsD x).1 := by
  unfold homeR awayR sideR outcomeD
  rw [if_pos h]
  constructor
  · by_cases h1 : (goalsD x).2.1 < (goalsD x).1
    · simp [h1]
    · by_cases h2 : (goalsD x).1 = (goalsD x).2.1
      · simp [h2]
      · have h3 : (goalsD x).1 < (goalsD x).2.1 := by omega
        simp [h1, h2, h3]
  · by_cases h1 : (goalsD x).2.1 < (goalsD x).1
    · have h2 : ¬ (goalsD x).1 < (goalsD x).2.1 := by omega
      simp [h1, h2]
    · by_cases h2 : (goalsD x).1 = (goalsD x).2.1
      · simp [h2]
      · have h3 : (goalsD x).1 < (goalsD x).2.1 := by omega
        simp [h1, h2, h3]
theorem cells_team {n t : Nat} {xs : List Value} {r : Nat → RowD} {y : RowD} {win draw loss : Int} {lad : Value} {agn : Bool} (h : RecCells 12 n xs fun i => teamCs (r i) win draw loss lad agn) (hl : xs.length = n * 12) (ht : t < n) :
    RecCells 12 n (setsFrom xs (t * 12) y.cells) fun i => teamCs (putR r t y i) win draw loss lad agn := by
  intro i hi j u hu
  have hj : j < 12 := by have := (List.getElem?_eq_some_iff.1 hu).1; simpa [teamCs, RowD.cells] using this
  have h7 : y.cells.length = 7 := rfl
  have h7x : ∀ x : RowD, x.cells.length = 7 := fun _ => rfl
  by_cases e : i = t
  · subst e
    unfold putR at hu
    simp only [if_pos trivial] at hu
    by_cases hj7 : j < 7
    · refine setsFrom_in _ _ _ j u (by omega) ?_
      unfold teamCs at hu
      rwa [List.getElem?_append_left (by omega)] at hu
    · rw [setsFrom_out _ _ _ _ (by omega)]
      refine h i hi j u ?_
      unfold teamCs at hu ⊢
      rw [List.getElem?_append_right (by have := h7x y; omega)] at hu
      rw [List.getElem?_append_right (by have := h7x (r i); omega)]
      exact hu
  · rw [setsFrom_out _ _ _ _ (by omega)]
    refine h i hi j u ?_
    unfold putR at hu
    simpa only [if_neg e] using hu
theorem box_team {w : World} {B gg o : Nat} {cs : List Value} {y : RowD} (h : BoxN w B cs) (hB : B ≠ gg) : BoxN (set7 w gg o y) B cs :=
  BoxN.elsewhere (BoxN.elsewhere (BoxN.elsewhere (BoxN.elsewhere (BoxN.elsewhere (BoxN.elsewhere (BoxN.elsewhere h (D := gg) _ _ hB) (D := gg) _ _ hB) (D := gg) _ _ hB) (D := gg) _ _ hB) (D := gg) _ _ hB) (D := gg) _ _ hB) (D := gg) _ _ hB
theorem team_ones {x : RowD} {win draw loss : Int} {la : Option Addr} {nl lc : Nat} {agn : Bool} : ∀ v ∈ teamCs x win draw loss (.slice la nl lc) agn, v.oneCell' = true := by
  intro v hv
  simp [teamCs, RowD.cells] at hv
  rcases hv with rfl | rfl | rfl | rfl | rfl | rfl | rfl | rfl | rfl | rfl | rfl | rfl <;> rfl
theorem cells_add1 {n : Nat} {xs : List Value} {win draw loss : Int} {r : Nat → RowD} {x : GameD} {lad : Value} {agn : Bool} (h : RecCells 12 n xs fun i => teamCs (r i) win draw loss lad agn) : RecCells 12 n xs fun i => teamCs (r i) win draw loss lad agn := h

end Go.Proofs.YteciobkjfmddcaaDoor
set_option linter.unusedVariables false
namespace Go.Proofs.YteciobkjfmddcaaDoor
open Go.RowKit

theorem teamOkI_yes (t : TeamD) (w : World) (hs : t.nm.size ≤ maxLen) (hp : teamP t) :
    Calls Tryd.prog 60 #[.agg #[.string t.nm, .int .i64 t.club, .int .i64 t.seed]] w fun e w' => e = .returned (.bool true) ∧ Below w.heap.size w w' := by
  obtain ⟨nm, club, seed⟩ := t
  obtain ⟨h1, h2, h3⟩ := hp
  simp only at h1 h2 h3 hs ⊢
  have H1 := Lib.hid h1
  have g1 : decide ((0 : Int) ≤ club) = true := decide_eq_true (by omega)
  have g2 : decide (club < 6) = true := decide_eq_true (by omega)
  have g3 : decide ((1 : Int) ≤ seed) = true := decide_eq_true (by omega)
  have g4 : decide (seed ≤ 8) = true := decide_eq_true (by omega)
  clear h1 h2 h3
  go_enter Tryd.func60, Tryd.ntmps60
  go_wp2_with (go_at_call 68; refine (isName_impl _ _ hs).mono ?_; rintro e w' ⟨rfl, bi⟩; obtain ⟨k0, k1, k2⟩ := var3 bi; rw [H1.out])
  go_ret
  exact ⟨rfl, ((Below.refl _ _).alloc (Nat.le_refl _) _).trans (bi.mono (by simp))⟩
theorem teamOkI_no (t : TeamD) (w : World) (hs : t.nm.size ≤ maxLen) (hp : ¬ teamP t) :
    Calls Tryd.prog 60 #[.agg #[.string t.nm, .int .i64 t.club, .int .i64 t.seed]] w fun e w' => e = .returned (.bool false) ∧ Below w.heap.size w w' := by
  obtain ⟨nm, club, seed⟩ := t
  unfold teamP at hp
  simp only at hp hs ⊢
  by_cases h1 : nameB nm = true
  · have H1 := Lib.hid h1
    have hp : ¬ ((0 ≤ club ∧ club ≤ 5) ∧ 1 ≤ seed ∧ seed ≤ 8) := fun h => hp ⟨h1, h⟩
    clear h1
    by_cases h2 : 0 ≤ club
    · have g1 : decide ((0 : Int) ≤ club) = true := decide_eq_true h2
      by_cases h3 : club < 6
      · have g2 : decide (club < 6) = true := decide_eq_true h3
        by_cases h4 : 1 ≤ seed
        · have g3 : decide ((1 : Int) ≤ seed) = true := decide_eq_true h4
          have g4 : decide (seed ≤ 8) = false := decide_eq_false (by omega)
          clear h2 h3 h4 hp
          go_enter Tryd.func60, Tryd.ntmps60
          go_wp2_with (go_at_call 68; refine (isName_impl _ _ hs).mono ?_; rintro e w' ⟨rfl, bi⟩; obtain ⟨k0, k1, k2⟩ := var3 bi; rw [H1.out])
          go_ret
          exact ⟨rfl, ((Below.refl _ _).alloc (Nat.le_refl _) _).trans (bi.mono (by simp))⟩
        · have g3 : decide ((1 : Int) ≤ seed) = false := decide_eq_false h4
          clear h2 h3 h4 hp
          go_enter Tryd.func60, Tryd.ntmps60
          go_wp2_with (go_at_call 68; refine (isName_impl _ _ hs).mono ?_; rintro e w' ⟨rfl, bi⟩; obtain ⟨k0, k1, k2⟩ := var3 bi; rw [H1.out])
          go_ret
          exact ⟨rfl, ((Below.refl _ _).alloc (Nat.le_refl _) _).trans (bi.mono (by simp))⟩
      · have g2 : decide (club < 6) = false := decide_eq_false h3
        clear h2 h3 hp
        go_enter Tryd.func60, Tryd.ntmps60
        go_wp2_with (go_at_call 68; refine (isName_impl _ _ hs).mono ?_; rintro e w' ⟨rfl, bi⟩; obtain ⟨k0, k1, k2⟩ := var3 bi; rw [H1.out])
        go_ret
        exact ⟨rfl, ((Below.refl _ _).alloc (Nat.le_refl _) _).trans (bi.mono (by simp))⟩
    · have g1 : decide ((0 : Int) ≤ club) = false := decide_eq_false h2
      clear h2 hp
      go_enter Tryd.func60, Tryd.ntmps60
      go_wp2_with (go_at_call 68; refine (isName_impl _ _ hs).mono ?_; rintro e w' ⟨rfl, bi⟩; obtain ⟨k0, k1, k2⟩ := var3 bi; rw [H1.out])
      go_ret
      exact ⟨rfl, ((Below.refl _ _).alloc (Nat.le_refl _) _).trans (bi.mono (by simp))⟩
  · have h1' : nameB nm = false := by simpa using h1
    have H1 := Lib.hid h1'
    clear h1 h1' hp
    go_enter Tryd.func60, Tryd.ntmps60
    go_wp2_with (go_at_call 68; refine (isName_impl _ _ hs).mono ?_; rintro e w' ⟨rfl, bi⟩; obtain ⟨k0, k1, k2⟩ := var3 bi; rw [H1.out])
    go_ret
    exact ⟨rfl, ((Below.refl _ _).alloc (Nat.le_refl _) _).trans (bi.mono (by simp))⟩
end Go.Proofs.YteciobkjfmddcaaDoor
set_option linter.unusedVariables false
namespace Go.Proofs.YteciobkjfmddcaaDoor
open Go.RowKit Go.Maps

theorem plainElem_bool_inv {H : Type} {P : Program} {e : TypeId} (he : P.underlying e = some .bool) {v : Value} {z : DataW H × List MemPlace} (h : plainElem P e v = some z) : ∃ x, v = .bool x ∧ z = (.lit (.bool x), []) := by
  unfold plainElem at h
  rw [he] at h
  cases v <;> simp at h
  exact ⟨_, rfl, h.symm⟩

def BoolMap (P : Program) (w : World) (k e : TypeId) (b n : Nat) (L : List Lit) : Prop :=
  ∃ D : DataW Unit, w.ownsMap P k (plainElem P e) b n D ∧ ∀ kl, (kl ∈ L → D.atKey kl (.lit (.bool false)) = .lit (.bool true)) ∧ (kl ∉ L → D.atKey kl (.lit (.bool false)) = .lit (.bool false))
section
variable {P : Program} {w w' : World} {k e t : TypeId} {b n : Nat} {L : List Lit}
theorem BoolMap.made (w : World) (P : Program) (k e : TypeId) : BoolMap P (w.alloc (.map #[] 0)) k e w.heap.size 0 [] :=
  ⟨.map [], World.ownsMap_made w P k _, fun kl => ⟨fun h => by simp at h, fun _ => rfl⟩⟩
theorem BoolMap.grown {row : Option Nat} (h : BoolMap P w k e b n L) (hg : w.grownBy w' row) (hne : some b ≠ row) : BoolMap P w' k e b n L := by
  obtain ⟨D, ho, hD⟩ := h
  exact ⟨D, ho.kept hg hne, hD⟩
theorem BoolMap.below {B : Nat} (h : BoolMap P w k e b n L) (hb : Below B w w') (hB : w.heap.size ≤ B) : BoolMap P w' k e b n L := h.grown (below_grown hb hB) (by simp)
theorem BoolMap.alloc (h : BoolMap P w k e b n L) (o : Obj) : BoolMap P (w.alloc o) k e b n L := h.grown (World.grownBy_alloc w o none) (by simp)
theorem BoolMap.lt (h : BoolMap P w k e b n L) : b < w.heap.size := by
  obtain ⟨D, ho, _⟩ := h
  exact ho.lt
theorem BoolMap.run {key : Value} {kl : Lit} (h : BoolMap P w k e b n L) (K : Keyed P k) (ht : P.underlying t = some (.map k e)) (he : P.underlying e = some .bool) (hz : (zeroValue e).run P w = .ok (.bool false) w) (hkey : keyOf P k key = some kl) :
    (kl ∈ L → (Instr.lookup t (.map (some b)) key false).run P w = .ok (.bool true) w) ∧ (kl ∉ L → (Instr.lookup t (.map (some b)) key false).run P w = .ok (.bool false) w) := by
  obtain ⟨D, ho, hD⟩ := h
  obtain ⟨v, ps, hrun, hv⟩ := ho.lookup K ht hz (plainElem_bool he false) hkey
  obtain ⟨x, rfl, hx⟩ := plainElem_bool_inv he hv
  simp only [Prod.mk.injEq] at hx
  refine ⟨fun h => ?_, fun h => ?_⟩
  · have := (hD kl).1 h
    rw [hx.1] at this
    simp only [DataW.lit.injEq, Lit.bool.injEq] at this
    rw [hrun, this]
  · have := (hD kl).2 h
    rw [hx.1] at this
    simp only [DataW.lit.injEq, Lit.bool.injEq] at this
    rw [hrun, this]
theorem wpList_boolTrue {ops : Array Oper} {rest : List Oper} {o : Oper} {a : Act} {Q : Exit → Act → World → Prop} (hg : o.guard = none) (m x v : Operand) (t : TypeId) (hop : o.op = Op.mapUpdate t m x v)
    (k e : TypeId) (K : Keyed P k) (ht : P.underlying t = some (.map k e)) (he : P.underlying e = some .bool) (b n : Nat) (L : List Lit)
    (hm : a.eval m = .map (some b)) (hown : BoolMap P w k e b n L) (hn : n < maxLen) (key : Value) (kl : Lit) (hx : a.eval x = key) (hv : a.eval v = .bool true) (hkey : keyOf P k key = some kl) (hk : WideAt.IsKeyLit kl)
    (hK : ∀ w', BoolMap P w' k e b (n + 1) (kl :: L) → w.grownBy w' (some b) → wpList P ops Q rest (a.put o.dst undef) w') :
    wpList P ops Q (o :: rest) a w := by
  obtain ⟨D, ho, hD⟩ := hown
  refine wpList_mapUpdate_own w hg m x v t hop k e K ht (plainElem P e) b n D hm ho hn key (.bool true) kl hx hv hkey (.lit (.bool true)) [] (plainElem_bool he true) fun w' h1 h2 => ?_
  refine hK w' ⟨_, h1, fun kl' => ?_⟩ h2
  by_cases hkk : kl' = kl
  · subst hkk
    exact ⟨fun _ => atKey_put_same ho.isMap hk _ _, fun h => absurd (List.mem_cons_self ..) h⟩
  · rw [atKey_put_other hkk]
    refine ⟨fun h => (hD kl').1 ?_, fun h => (hD kl').2 ?_⟩
    · rcases List.mem_cons.1 h with h | h
      · exact absurd h hkk
      · exact h
    · exact fun h' => h (List.mem_cons_of_mem _ h')
end

def CountMap (P : Program) (w : World) (k e : TypeId) (b n : Nat) (C : Lit → Nat) : Prop :=
  ∃ D : DataW Unit, w.ownsMap P k (plainElem P e) b n D ∧ (∀ kl, Maps.has D kl = true ↔ 0 < C kl) ∧ ∀ kl, D.atKey kl (.lit (.int .i64 0)) = .lit (.int .i64 (C kl))
open Classical in
noncomputable def oneMore (C : Lit → Nat) (kl : Lit) : Lit → Nat := fun z => C z + if z = kl then 1 else 0
def CountRange (P : Program) (w : World) (k e : TypeId) (b r n : Nat) (C : Lit → Nat) (left : Lit → Bool) (cnt : Nat) : Prop :=
  ∃ D : DataW Unit, w.ranges P k (plainElem P e) b r n D left cnt ∧ ∀ kl, D.atKey kl (.lit (.int .i64 0)) = .lit (.int .i64 (C kl))
section
variable {P : Program} {w w' : World} {k e t : TypeId} {b n r cnt : Nat} {C : Lit → Nat} {left : Lit → Bool}
theorem CountMap.made (w : World) (P : Program) (k e : TypeId) : CountMap P (w.alloc (.map #[] 0)) k e w.heap.size 0 (fun _ => 0) :=
  ⟨.map [], World.ownsMap_made w P k _, fun kl => ⟨fun h => by simp [Maps.has_eq] at h, fun h => by simp at h⟩, fun kl => rfl⟩
theorem CountMap.grown {row : Option Nat} (h : CountMap P w k e b n C) (hg : w.grownBy w' row) (hne : some b ≠ row) : CountMap P w' k e b n C := by
  obtain ⟨D, ho, hD⟩ := h
  exact ⟨D, ho.kept hg hne, hD⟩
theorem CountMap.below {B : Nat} (h : CountMap P w k e b n C) (hb : Below B w w') (hB : w.heap.size ≤ B) : CountMap P w' k e b n C := h.grown (below_grown hb hB) (by simp)
theorem CountMap.alloc (h : CountMap P w k e b n C) (o : Obj) : CountMap P (w.alloc o) k e b n C := h.grown (World.grownBy_alloc w o none) (by simp)
theorem CountMap.lt (h : CountMap P w k e b n C) : b < w.heap.size := by
  obtain ⟨D, ho, _⟩ := h
  exact ho.lt
theorem wpList_countLook {ops : Array Oper} {rest : List Oper} {o : Oper} {a : Act} {Q : Exit → Act → World → Prop} (hg : o.guard = none) (m x : Operand) (t : TypeId) (hop : o.op = Op.lookup t m x false)
    (k e : TypeId) (K : Keyed P k) (ht : P.underlying t = some (.map k e)) (he : P.underlying e = some (.int .i64)) (hz : (zeroValue e).run P w = .ok (.int .i64 0) w) (b n : Nat) (C : Lit → Nat)
    (hm : a.eval m = .map (some b)) (hown : CountMap P w k e b n C) (key : Value) (kl : Lit) (hx : a.eval x = key) (hkey : keyOf P k key = some kl)
    (hK : wpList P ops Q rest (a.put o.dst (.int .i64 (C kl))) w) :
    wpList P ops Q (o :: rest) a w := by
  obtain ⟨D, ho, _, hD⟩ := hown
  refine wpList_lookup_own_int w hg m x t hop k e .i64 K ht he hz b n D hm ho key kl hx hkey fun c hc _ => ?_
  rw [hD kl] at hc
  simp only [DataW.lit.injEq, Lit.int.injEq, true_and] at hc
  rw [← hc]
  exact hK
theorem wpList_countMore {ops : Array Oper} {rest : List Oper} {o : Oper} {a : Act} {Q : Exit → Act → World → Prop} (hg : o.guard = none) (m x v : Operand) (t : TypeId) (hop : o.op = Op.mapUpdate t m x v)
    (k e : TypeId) (K : Keyed P k) (ht : P.underlying t = some (.map k e)) (he : P.underlying e = some (.int .i64)) (b n : Nat) (C : Lit → Nat)
    (hm : a.eval m = .map (some b)) (hown : CountMap P w k e b n C) (hn : n < maxLen) (key : Value) (kl : Lit) (hx : a.eval x = key) (hv : a.eval v = .int .i64 ((C kl : Int) + 1)) (hsm : C kl < 1000000000) (hkey : keyOf P k key = some kl) (hk : WideAt.IsKeyLit kl)
    (hK : ∀ w', CountMap P w' k e b (n + 1) (oneMore C kl) → w.grownBy w' (some b) → wpList P ops Q rest (a.put o.dst undef) w') :
    wpList P ops Q (o :: rest) a w := by
  obtain ⟨D, ho, hh, hD⟩ := hown
  refine wpList_mapUpdate_own w hg m x v t hop k e K ht (plainElem P e) b n D hm ho hn key _ kl hx hv hkey (.lit (.int .i64 ((C kl : Int) + 1))) [] (plainElem_int he (WalkArith.wf_i64 (by omega))) fun w' h1 h2 => ?_
  refine hK w' ⟨_, h1, fun kl' => ?_, fun kl' => ?_⟩ h2
  · by_cases hkk : kl' = kl
    · subst hkk
      rw [Maps.has_put_same ho.isMap hk]
      simp [oneMore]
    · rw [Maps.has_put_other hkk, hh kl']
      simp [oneMore, hkk]
  · by_cases hkk : kl' = kl
    · subst hkk
      rw [atKey_put_same ho.isMap hk]
      simp [oneMore]
    · rw [atKey_put_other hkk, hD kl']
      simp [oneMore, hkk]
theorem wpList_countRange {ops : Array Oper} {rest : List Oper} {o : Oper} {a : Act} {Q : Exit → Act → World → Prop} (hg : o.guard = none) (m : Operand) (t : TypeId) (hop : o.op = Op.range t m) (k e : TypeId) (K : Keyed P k) (ht : P.underlying t = some (.map k e)) (b n : Nat) (C : Lit → Nat)
    (hm : a.eval m = .map (some b)) (hown : CountMap P w k e b n C)
    (hK : ∀ w' left cnt, (∀ kl, left kl = true ↔ 0 < C kl) → CountRange P w' k e b w.heap.size n C left cnt → w.grownBy w' none → wpList P ops Q rest (a.put o.dst (.pointer (some ⟨w.heap.size, 0, none⟩))) w') :
    wpList P ops Q (o :: rest) a w := by
  obtain ⟨D, ho, hh, hD⟩ := hown
  exact wpList_range_own w hg m t hop k e K ht (plainElem P e) b n D hm ho fun w' h1 h2 _ => hK w' _ _ hh ⟨D, h1, hD⟩ h2
theorem wpList_countNext {ops : Array Oper} {rest : List Oper} {o : Oper} {a : Act} {Q : Exit → Act → World → Prop} (hg : o.guard = none) (it : Operand) (hop : o.op = Op.next it false) (k e : TypeId) (K : Keyed P k) (hk : P.underlying k = some (.int .i64)) (he : P.underlying e = some (.int .i64))
    (b r n : Nat) (C : Lit → Nat) (left : Lit → Bool) (cnt : Nat) (hit : a.eval it = .pointer (some ⟨r, 0, none⟩)) (h : CountRange P w k e b r n C left cnt)
    (hDone : (∀ kl, left kl = false) → wpList P ops Q rest (a.put o.dst (.tuple #[.bool false])) w)
    (hMore : ∀ (x : Int) (w' : World) (cnt' : Nat), left (.int .i64 x) = true → CountRange P w' k e b r n C (fun z => left z && !z.sameKey (.int .i64 x)) cnt' → cnt' < cnt →
      w.grownBy w' (some r) → (Instr.entry (.pointer (some ⟨r, 0, none⟩))).run P w' = .ok (.tuple #[.int .i64 x, .int .i64 (C (.int .i64 x))]) w' → wpList P ops Q rest (a.put o.dst (.tuple #[.bool true, .int .i64 x, .int .i64 (C (.int .i64 x))])) w') :
    wpList P ops Q (o :: rest) a w := by
  obtain ⟨D, ho, hD⟩ := h
  refine wpList_next_ranges_ii w hg it hop k e .i64 .i64 K hk he b r n D left cnt hit ho (fun _ h => hDone h) fun x c w' cnt' _ _ hl hat hrg hlt hgr _ hen => ?_
  have hc : c = C (.int .i64 x) := by
    have := (hat (.lit (.int .i64 0))).symm.trans (hD _)
    simpa using this
  subst hc
  exact hMore x w' cnt' hl ⟨D, hrg, hD⟩ hlt hgr hen
theorem CountRange.left_eq (h : CountRange P w k e b r n C left cnt) : w.rangeLeft b r = cnt := by
  obtain ⟨D, ho, _⟩ := h
  exact ho.left_eq
end
def leftN (left : Lit → Bool) : Nat → Nat
  | 0 => 0
  | c + 1 => leftN left c + if left (.int .i64 (c : Int)) = true then 1 else 0
theorem leftN_congr {l l' : Lit → Bool} : ∀ c : Nat, (∀ j : Nat, j < c → l (.int .i64 (j : Int)) = l' (.int .i64 (j : Int))) → leftN l c = leftN l' c
  | 0, _ => rfl
  | c + 1, h => by
    unfold leftN
    rw [leftN_congr c fun j hj => h j (by omega), h c (by omega)]
theorem leftN_zero {l : Lit → Bool} (h : ∀ kl, l kl = false) : ∀ c, leftN l c = 0
  | 0 => rfl
  | c + 1 => by unfold leftN; rw [leftN_zero h c, h]; rfl
theorem same_int (x y : Int) : (Lit.int .i64 x).sameKey (.int .i64 y) = decide (x = y) := by
  have := WideAt.sameKey_iff (a := .int .i64 x) (b := .int .i64 y) trivial
  by_cases h : x = y
  · subst h; simpa using this
  · rw [decide_eq_false h]
    cases hs : (Lit.int .i64 x).sameKey (.int .i64 y)
    · rfl
    · have := this.1 hs
      simp at this
      exact absurd this h
theorem leftN_strike {l : Lit → Bool} {x : Nat} (hl : l (.int .i64 (x : Int)) = true) : ∀ c, x < c → leftN (fun z => l z && !z.sameKey (.int .i64 (x : Int))) c + 1 = leftN l c
  | 0, h => absurd h (by omega)
  | c + 1, h => by
    by_cases hx : x = c
    · subst hx
      have e1 : leftN (fun z => l z && !z.sameKey (.int .i64 (x : Int))) x = leftN l x := leftN_congr x fun j hj => by
        simp only [same_int]
        rw [decide_eq_false (by omega)]; simp
      unfold leftN
      rw [e1]
      simp [same_int, hl]
    · have := leftN_strike hl c (by omega)
      unfold leftN
      simp only [same_int]
      rw [decide_eq_false (by omega)]
      simp
      omega
end Go.Proofs.YteciobkjfmddcaaDoor
