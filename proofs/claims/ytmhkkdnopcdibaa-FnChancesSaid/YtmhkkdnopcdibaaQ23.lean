/-
  Packed: DrawLaw.
-/
import Derived.Test.YtmhkkdnopcdibaaQ21
import Derived.Test.YtmhkkdnopcdibaaQ22
set_option linter.unusedVariables false
namespace Go.Proofs.Ytmhkkdnopcdibaa
open Go.RowKit

structure DrwImpl : Prop where
  ok : ∀ (vf : Value) (nf : Nat) (F : Nat → TeamD) (vp : Value) (gr most : Int) (T : List (List Int)) (R : Bool) (w : World), (R = true ↔ potsP nf F T gr most) → TeamRow w vf nf F → (∀ i, (F i).nm.size ≤ maxLen) → RdA tIntSS w [vp] T → tIntSS.wt T ≤ 1048576 →
    Calls Try.prog 14 #[vf, .agg #[vp, .int .i64 gr, .int .i64 most]] w fun e w' => e = .returned (.bool R) ∧ Below w.heap.size w w'
  isD : ∀ (vf : Value) (nf : Nat) (F : Nat → TeamD) (vp : Value) (gr most : Int) (T : List (List Int)) (vd : Value) (L : List Int) (R : Bool) (w : World), (R = true ↔ potsP nf F T gr most ∧ isB F T gr most L = true) → TeamRow w vf nf F → (∀ i, (F i).nm.size ≤ maxLen) → RdA tIntSS w [vp] T → tIntSS.wt T ≤ 1048576 → IntRow w vd L.length (getI L) →
    Calls Try.prog 17 #[vf, .agg #[vp, .int .i64 gr, .int .i64 most], vd] w fun e w' => e = .returned (.bool R) ∧ Below w.heap.size w w'
  cnt : ∀ (vf : Value) (nf : Nat) (F : Nat → TeamD) (vp : Value) (gr most : Int) (T : List (List Int)) (vd : Value) (L : List Int) (R : Int) (w : World), (potsP nf F T gr most → R = cdN F T gr most L) → (¬ potsP nf F T gr most → R = 0) → TeamRow w vf nf F → (∀ i, (F i).nm.size ≤ maxLen) → RdA tIntSS w [vp] T → tIntSS.wt T ≤ 1048576 → IntRow w vd L.length (getI L) →
    Calls Try.prog 13 #[vf, .agg #[vp, .int .i64 gr, .int .i64 most], vd] w fun e w' => e = .returned (.int .i64 R) ∧ Below w.heap.size w w'
  nth : ∀ (vf : Value) (nf : Nat) (F : Nat → TeamD) (vp : Value) (gr most : Int) (T : List (List Int)) (c x : Int) (w : World), (potsP nf F T gr most → c = cdN F T gr most []) → (¬ potsP nf F T gr most → c = 0) → TeamRow w vf nf F → (∀ i, (F i).nm.size ≤ maxLen) → RdA tIntSS w [vp] T → tIntSS.wt T ≤ 1048576 →
    Calls Try.prog 15 #[vf, .agg #[vp, .int .i64 gr, .int .i64 most], .int .i64 x] w (NthM w (nthL F T gr most c x))
  idx : ∀ (vf : Value) (nf : Nat) (F : Nat → TeamD) (vp : Value) (gr most : Int) (T : List (List Int)) (vd : Value) (L : List Int) (R : Int) (w : World), (potsP nf F T gr most ∧ isB F T gr most L = true → R = (idxF (drwD F T gr most) L 0 noP noC : Nat)) → (¬ (potsP nf F T gr most ∧ isB F T gr most L = true) → R = -1) → TeamRow w vf nf F → (∀ i, (F i).nm.size ≤ maxLen) → RdA tIntSS w [vp] T → tIntSS.wt T ≤ 1048576 → IntRow w vd L.length (getI L) →
    Calls Try.prog 18 #[vf, .agg #[vp, .int .i64 gr, .int .i64 most], vd] w fun e w' => e = .returned (.int .i64 R) ∧ Below w.heap.size w w'
  grp : ∀ (vp : Value) (gr most : Int) (T : List (List Int)) (vd : Value) (L : List Int) (g : Int) (w : World), RdA tIntSS w [vp] T → tIntSS.wt T ≤ 1048576 → IntRow w vd L.length (getI L) →
    Calls Try.prog 20 #[.agg #[vp, .int .i64 gr, .int .i64 most], vd, .int .i64 g] w (IntsL w (grpL T.flatten L g T.flatten.length))
  ch : ∀ (vf : Value) (nf : Nat) (F : Nat → TeamD) (vp : Value) (gr most : Int) (T : List (List Int)) (x : Int) (R : List Int) (w : World), (potsP nf F T gr most → R = chL F T gr most x) → (¬ potsP nf F T gr most → R = []) → TeamRow w vf nf F → (∀ i, (F i).nm.size ≤ maxLen) → RdA tIntSS w [vp] T → tIntSS.wt T ≤ 1048576 →
    Calls Try.prog 21 #[vf, .agg #[vp, .int .i64 gr, .int .i64 most], .int .i64 x] w (IntsL w R)
def DK (w : World) (X : Nat) (vf : Value) (nf : Nat) (F : Nat → TeamD) (pa : Option Addr) (np pc : Nat) (gr most : Int) (T : List (List Int)) (wa : World) : Prop :=
  TeamRow wa vf nf F ∧ PotsAt wa X pa np pc gr most T ∧ Below w.heap.size w wa
variable {w wa wb : World} {X nf np pc : Nat} {vf : Value} {F : Nat → TeamD} {pa : Option Addr} {gr most : Int} {T : List (List Int)}
theorem DK.below (h : DK w X vf nf F pa np pc gr most T wa) (b : Below wa.heap.size wa wb) : DK w X vf nf F pa np pc gr most T wb :=
  ⟨h.1.below b (Nat.le_refl _), h.2.1.below b, h.2.2.trans (b.mono h.2.2.size)⟩
theorem DK.alloc (o : Obj) (h : DK w X vf nf F pa np pc gr most T wa) : DK w X vf nf F pa np pc gr most T (wa.alloc o) := h.below ((Below.refl _ _).alloc (Nat.le_refl _) _)
theorem DK.cells (h : DK w X vf nf F pa np pc gr most T wa) : wa.cell? ⟨X, 0, none⟩ = some (.slice pa np pc) ∧ wa.cell? ⟨X, 1, none⟩ = some (.int .i64 gr) ∧ wa.cell? ⟨X, 2, none⟩ = some (.int .i64 most) :=
  ⟨h.2.1.1.2 0 _ rfl, h.2.1.1.2 1 _ rfl, h.2.1.1.2 2 _ rfl⟩
theorem one_row {w : World} {x : Int} {t : TypeId} : IntRow (w.alloc (.cells #[.int .i64 x] t)) (.slice (some ⟨w.heap.size, 0, none⟩) 1 1) [x].length (getI [x]) := by
  refine .inr ⟨w.heap.size, 0, 1, rfl, by show 0 < 1; omega, by show 1 ≤ _; omega, fun i hi => ?_, Nat.le_refl _⟩
  have hi0 : i = 0 := by have : i < 1 := hi; omega
  subst hi0
  rw [cell_of_row _ w.heap.size 0 _ t (0, 0) (heap_alloc_new w _)]
  rfl
set_option maxRecDepth 100000 in
set_option maxHeartbeats 4000000 in
theorem draws_walk (a : Option Addr) (len cap : Nat) (zs : List Int) (CI : DrwImpl) (w : World) (hr : IsRow .u8 w a len cap zs) :
    Calls Try.prog 3 #[.slice a len cap] w fun e w' => e = .returned (.bool true) ∧ Below w.heap.size w w' := by
  obtain ⟨hrow, hsm, hfit⟩ := hr.bytes
  clear hr
  generalize getN zs = g at *
  by_cases hl : 1048576 < len
  · have g0 : decide ((1048576 : Int) < (len : Int)) = true := decide_eq_true (by omega)
    clear hrow hsm
    go_enter Try.func3, Try.ntmps3
    go_wp2
    go_ret
    exact ⟨rfl, Below.refl _ _⟩
  have g0 : decide ((1048576 : Int) < (len : Int)) = false := decide_eq_false (by omega)
  have hle : len ≤ 1048576 := by omega
  have CM := Lib.hid (makePots_any a len cap g w hrow hsm hle)
  have CN := Lib.hid (fun wa h => makeNum_any a len cap 60 g wa h hsm hle (by omega))
  have HRW := Lib.hid hrow
  clear hrow hsm
  go_enter Try.func3, Try.ntmps3
  go_wp2_with fail
  refine CM.out.mono ?_
  rintro e w1 ⟨vf, vp, G, M, nf, T, F, rfl, hG, hpots, hsz, hwt, hfield, hrd, b1⟩
  obtain ⟨pa, pc, rfl, _⟩ := pots_form hrd
  obtain ⟨fa, fc, rfl, _, _⟩ := hfield.form'
  obtain ⟨c, N, A, t, S, HF⟩ : ∃ c N A t S, DrwFacts F T (G : Int) (M : Int) G c N A t S := ⟨_, _, _, _, _, draws_facts hpots rfl⟩
  obtain ⟨U, hU⟩ : ∃ U, w1.alloc (.cells #[.slice pa (List.length (α := List Int) T) pc, .int .i64 (G : Int), .int .i64 (M : Int)] 26) = U := ⟨_, rfl⟩
  have HS : Hid (PotsAt U w1.heap.size pa (List.length (α := List Int) T) pc (G : Int) (M : Int) T) := by rw [← hU]; exact PotsAt.made hrd
  have bU : Below w1.heap.size w1 U := by rw [← hU]; exact (Below.refl _ _).alloc (Nat.le_refl _) _
  obtain ⟨np, hnp⟩ : ∃ np, List.length (α := List Int) T = np := ⟨_, rfl⟩
  have HNP : Hid (T.length = np) := hnp
  rw [hnp] at hU HS ⊢
  have HK : Hid (DK w w1.heap.size (.slice fa nf fc) nf F pa np pc (G : Int) (M : Int) T U) := ⟨hfield.below bU (Nat.le_refl _), HS.out, b1.trans (bU.mono b1.size)⟩
  have KO : Hid (∀ X wa, DK w X (.slice fa nf fc) nf F pa np pc (G : Int) (M : Int) T wa → Calls Try.prog 14 #[.slice fa nf fc, .agg #[.slice pa np pc, .int .i64 (G : Int), .int .i64 (M : Int)]] wa fun e w' => e = .returned (.bool true) ∧ Below wa.heap.size wa w') := fun X wa h =>
    CI.ok _ _ _ _ _ _ _ true wa ⟨fun _ => hpots, fun _ => rfl⟩ h.1 hsz h.2.1.2 hwt
  have KD : Hid (∀ X wa i vd, i < c → DK w X (.slice fa nf fc) nf F pa np pc (G : Int) (M : Int) T wa → IntRow wa vd N (getI (A i)) → Calls Try.prog 17 #[.slice fa nf fc, .agg #[.slice pa np pc, .int .i64 (G : Int), .int .i64 (M : Int)], vd] wa fun e w' => e = .returned (.bool true) ∧ Below wa.heap.size wa w') := fun X wa i vd hi h hd =>
    CI.isD _ _ _ _ _ _ _ vd (A i) true wa ⟨fun _ => ⟨hpots, HF.isB i hi⟩, fun _ => rfl⟩ h.1 hsz h.2.1.2 hwt (by rw [HF.len i]; exact hd)
  have KI : Hid (∀ X wa i vd, i < c → DK w X (.slice fa nf fc) nf F pa np pc (G : Int) (M : Int) T wa → IntRow wa vd N (getI (A i)) → Calls Try.prog 18 #[.slice fa nf fc, .agg #[.slice pa np pc, .int .i64 (G : Int), .int .i64 (M : Int)], vd] wa fun e w' => e = .returned (.int .i64 (i : Int)) ∧ Below wa.heap.size wa w') := fun X wa i vd hi h hd =>
    CI.idx _ _ _ _ _ _ _ vd (A i) (i : Int) wa (fun _ => by rw [HF.idx i hi]) (fun hn => absurd ⟨hpots, HF.isB i hi⟩ hn) h.1 hsz h.2.1.2 hwt (by rw [HF.len i]; exact hd)
  have KA : Hid (∀ X wa i vd, i < c → DK w X (.slice fa nf fc) nf F pa np pc (G : Int) (M : Int) T wa → IntRow wa vd N (getI (A i)) → Calls Try.prog 13 #[.slice fa nf fc, .agg #[.slice pa np pc, .int .i64 (G : Int), .int .i64 (M : Int)], vd] wa fun e w' => e = .returned (.int .i64 1) ∧ Below wa.heap.size wa w') := fun X wa i vd hi h hd =>
    CI.cnt _ _ _ _ _ _ _ vd (A i) 1 wa (fun _ => (HF.one i hi).symm) (fun hn => absurd hpots hn) h.1 hsz h.2.1.2 hwt (by rw [HF.len i]; exact hd)
  have KC : Hid (∀ X wa, DK w X (.slice fa nf fc) nf F pa np pc (G : Int) (M : Int) T wa → Calls Try.prog 13 #[.slice fa nf fc, .agg #[.slice pa np pc, .int .i64 (G : Int), .int .i64 (M : Int)], .slice none 0 0] wa fun e w' => e = .returned (.int .i64 (c : Int)) ∧ Below wa.heap.size wa w') := fun X wa h =>
    CI.cnt _ _ _ _ _ _ _ _ [] (c : Int) wa (fun _ => HF.none.symm) (fun hn => absurd hpots hn) h.1 hsz h.2.1.2 hwt (.inl ⟨none, 0, rfl, rfl⟩)
  have KB : Hid (∀ X wa y vd, y < G → DK w X (.slice fa nf fc) nf F pa np pc (G : Int) (M : Int) T wa → IntRow wa vd [(y : Int)].length (getI [(y : Int)]) → Calls Try.prog 13 #[.slice fa nf fc, .agg #[.slice pa np pc, .int .i64 (G : Int), .int .i64 (M : Int)], vd] wa fun e w' => e = .returned (.int .i64 (t y : Int)) ∧ Below wa.heap.size wa w') := fun X wa y vd hy h hd =>
    CI.cnt _ _ _ _ _ _ _ vd _ (t y : Int) wa (fun _ => (HF.beg y hy).symm) (fun hn => absurd hpots hn) h.1 hsz h.2.1.2 hwt hd
  have KN0 : Hid (∀ X wa x, DK w X (.slice fa nf fc) nf F pa np pc (G : Int) (M : Int) T wa → Calls Try.prog 15 #[.slice fa nf fc, .agg #[.slice pa np pc, .int .i64 (G : Int), .int .i64 (M : Int)], .int .i64 x] wa (NthM wa (if 0 ≤ x ∧ x ≤ (c : Int) - 1 then some (A x.toNat) else none))) := fun X wa x h => by
    have h9 := CI.nth _ _ _ _ _ _ _ (c : Int) x wa (fun _ => HF.none.symm) (fun hn => absurd hpots hn) h.1 hsz h.2.1.2 hwt
    rw [HF.nth x] at h9
    exact h9
  have KNN : Hid (∀ X wa x, ¬ (0 ≤ x ∧ x ≤ (c : Int) - 1) → DK w X (.slice fa nf fc) nf F pa np pc (G : Int) (M : Int) T wa → Calls Try.prog 15 #[.slice fa nf fc, .agg #[.slice pa np pc, .int .i64 (G : Int), .int .i64 (M : Int)], .int .i64 x] wa fun e w' => e = .returned (.tuple #[.slice none 0 0, .bool false]) ∧ Below wa.heap.size wa w') := fun X wa x hx h => by
    have h9 := KN0.out X wa x h
    rw [if_neg hx] at h9
    exact h9
  have KNS : Hid (∀ X wa (x : Int) (i : Nat), x = (i : Int) → i < c → DK w X (.slice fa nf fc) nf F pa np pc (G : Int) (M : Int) T wa → Calls Try.prog 15 #[.slice fa nf fc, .agg #[.slice pa np pc, .int .i64 (G : Int), .int .i64 (M : Int)], .int .i64 x] wa fun e w' => ∃ va vc, e = .returned (.tuple #[.slice va N vc, .bool true]) ∧ IntRow w' (.slice va N vc) N (getI (A i)) ∧ Below wa.heap.size wa w') := fun X wa x i hx hi h => by
    have h9 := KN0.out X wa x h
    rw [if_pos (by omega)] at h9
    refine h9.mono ?_
    rintro e w' ⟨v, rfl, ho, b⟩
    obtain ⟨va, vc, rfl⟩ := owns_form ho
    have hi9 : x.toNat = i := by omega
    rw [hi9] at ho
    have h8 := IntRow.of_list ho (by rw [HF.len i]; have := HF.twelve; omega)
    rw [HF.len i] at h8
    exact ⟨va, vc, by rw [hi9, HF.len i], h8, b⟩
  have KG : Hid (∀ X wa i vd (y : Int), i < c → DK w X (.slice fa nf fc) nf F pa np pc (G : Int) (M : Int) T wa → IntRow wa vd N (getI (A i)) → Calls Try.prog 20 #[.agg #[.slice pa np pc, .int .i64 (G : Int), .int .i64 (M : Int)], vd, .int .i64 y] wa fun e w' => ∃ va n9 vc, n9 ≤ np ∧ e = .returned (.slice va n9 vc) ∧ Below wa.heap.size wa w') := fun X wa i vd y hi h hd => by
    refine (CI.grp _ _ _ _ vd (A i) y wa h.2.1.2 hwt (by rw [HF.len i]; exact hd)).mono ?_
    rintro e w' ⟨v, rfl, ho, b⟩
    obtain ⟨va, vc, rfl⟩ := owns_form ho
    exact ⟨va, _, vc, by rw [← HNP.out]; exact HF.grp i y hi, rfl, b⟩
  have HLS : Hid (∀ i j, i < j → j < c → lessP (A i) (A j)) := HF.less
  have KL : Hid (∀ va vb i j wa, i < j → j < c → IntRow wa va N (getI (A i)) → IntRow wa vb N (getI (A j)) → Calls Try.prog 19 #[va, vb] wa fun e w' => e = .returned (.bool true) ∧ wa = w') := fun va vb i j wa hij hj h1 h2 =>
    less_yes va vb (A i) (A j) wa (HF.less i j hij hj) (by rw [HF.len i]; exact h1) (by rw [HF.len j]; exact h2)
  have hc67 := HF.small
  have hN12 := HF.twelve
  have HS0 := Lib.hid HF.start
  have HST := Lib.hid HF.step
  have HSB := Lib.hid HF.bound
  have HSS := Lib.hid HF.sum
  have hG2 := hG.1
  have hG3 := hG.2
  have hnp3 : np ≤ 3 := by have := hpots.2.2.2.1.2; rw [HNP.out] at this; omega
  clear CI CM HF hpots hsz hwt hfield hrd HS bU b1 hnp KN0 HLS hG HNP
  obtain ⟨X, hX⟩ : ∃ X, w1.heap.size = X := ⟨_, rfl⟩
  rw [hX] at HK
  obtain ⟨c0, c1, c2⟩ := HK.out.cells
  go_wp2_with fail
  generalize w1.heap.size = X1 at *
  subst hX
  clear hU
  refine (KC.out _ _ HK.out).mono ?_
  rintro e w2 ⟨rfl, b⟩
  replace HK := Lib.hid (HK.out.below b)
  clear b c0 c1 c2
  obtain ⟨c0, c1, c2⟩ := HK.out.cells
  go_wp2_with fail
  refine (KO.out _ _ HK.out).mono ?_
  rintro e w3 ⟨rfl, b⟩
  replace HK := Lib.hid (HK.out.below b)
  clear b c0 c1 c2
  obtain ⟨c0, c1, c2⟩ := HK.out.cells
  have n0 : decide ((c : Int) < 0) = false := decide_eq_false (by omega)
  by_cases hc : c = 0
  · subst hc
    go_wp2_with fail
    refine (KNN.out _ _ 0 (by omega) HK.out).mono ?_
    rintro e w4 ⟨rfl, b⟩
    replace HK := Lib.hid (HK.out.below b)
    go_wp2
    go_ret
    exact ⟨rfl, HK.out.2.2⟩
  have hc0 : 0 < c := by omega
  have n1 : decide ((c : Int) = 0) = false := decide_eq_false (by omega)
  have n2 : ((c : Int) == 0) = false := by simp; omega
  have n3 : ¬ (c : Int) = 0 := by omega
  go_wp2_with fail
  refine (CN.out _ (HRW.out.below HK.out.2.2 (Nat.le_refl _))).mono ?_
  rintro e w4 ⟨⟨x, hx, rfl⟩, b⟩
  replace HK := Lib.hid (HK.out.below b)
  clear b c0 c1 c2 CN HRW
  obtain ⟨i, hi⟩ : ∃ i : Nat, (x : Int).tmod (c : Int) = (i : Int) := ⟨x % c, rfl⟩
  have hic : i < c := by
    have h1 := Int.tmod_lt_of_pos (x : Int) (show (0 : Int) < (c : Int) by omega)
    omega
  have hi9 : IntKind.i64.wrap (i : Int) = (i : Int) := IntWalk.i64_in _ (by omega)
  obtain ⟨c0, c1, c2⟩ := HK.out.cells
  go_wp2_with fail
  refine (KNS.out _ _ (i : Int) i rfl hic HK.out).mono ?_
  rintro e w5 ⟨da, dc, rfl, hd, b⟩
  replace HK := Lib.hid (HK.out.below b)
  have HD := Lib.hid hd
  clear b c0 c1 c2 hd
  obtain ⟨c0, c1, c2⟩ := HK.out.cells
  go_wp2_with fail
  refine (KD.out _ _ i _ hic HK.out HD.out).mono ?_
  rintro e w6 ⟨rfl, b⟩
  replace HK := Lib.hid (HK.out.below b)
  replace HD := Lib.hid (HD.out.below b (Nat.le_refl _))
  clear b c0 c1 c2
  obtain ⟨c0, c1, c2⟩ := HK.out.cells
  go_wp2_with fail
  refine (KI.out _ _ i _ hic HK.out HD.out).mono ?_
  rintro e w7 ⟨rfl, b⟩
  replace HK := Lib.hid (HK.out.below b)
  replace HD := Lib.hid (HD.out.below b (Nat.le_refl _))
  clear b c0 c1 c2
  obtain ⟨c0, c1, c2⟩ := HK.out.cells
  have n4 : ((i : Int) != (i : Int)) = false := by simp
  go_wp2_with fail
  refine (KA.out _ _ i _ hic HK.out HD.out).mono ?_
  rintro e w8 ⟨rfl, b⟩
  replace HK := Lib.hid (HK.out.below b)
  replace HD := Lib.hid (HD.out.below b (Nat.le_refl _))
  clear b c0 c1 c2
  obtain ⟨c0, c1, c2⟩ := HK.out.cells
  have n5 : IntKind.i64.wrap ((i : Int) + 1) = (i : Int) + 1 := IntWalk.i64_in _ (by omega)
  have n6 : ((N : Int) != (N : Int)) = false := by simp
  by_cases hnx : i + 1 < c
  · have n9 : decide ((i : Int) + 1 < (c : Int)) = true := decide_eq_true (by omega)
    go_wp2_with fail
    refine (KNS.out _ _ ((i : Int) + 1) (i + 1) (by omega) hnx HK.out).mono ?_
    rintro e w9 ⟨ea, ec, rfl, he, b⟩
    replace HK := Lib.hid (HK.out.below b)
    replace HD := Lib.hid (HD.out.below b (Nat.le_refl _))
    have HE := Lib.hid he
    clear b c0 c1 c2 he
    obtain ⟨c0, c1, c2⟩ := HK.out.cells
    go_wp2_with fail
    refine (KL.out _ _ i (i + 1) _ (Nat.lt_succ_self i) hnx HD.out HE.out).mono ?_
    rintro e w10 ⟨rfl, rfl⟩
    go_wp2
    go_loopw [13, 14] (fun sv iv wx => ∃ y : Nat, y ≤ G ∧ sv = .int .i64 (S y : Int) ∧ iv = .int .i64 y ∧ Hid (DK w X1 (.slice fa nf fc) nf F pa np pc (G : Int) (M : Int) T wx) ∧ Hid (IntRow wx (.slice da N dc) N (getI (A i)))) (fun sv iv _ => G - (RowKit.intOf iv).toNat)
    case atStart => exact ⟨0, Nat.zero_le _, by rw [HS0.out]; rfl, rfl, HK, HD⟩
    case round =>
      clear HK HD c0 c1 c2
      obtain ⟨y, hy, rfl, rfl, HK, HD⟩ := hrel
      obtain ⟨c0, c1, c2⟩ := HK.out.cells
      by_cases hlt : y < G
      · have s1 := Lib.hid (HST.out y)
        have s2 := HSB.out (y + 1) hlt
        have s3 : IntKind.i64.wrap ((S y : Int) + (t y : Int)) = (S (y + 1) : Int) := by
          have h9 := s1.out
          rw [show (S y : Int) + (t y : Int) = (S (y + 1) : Int) by omega]
          exact IntWalk.i64_in _ (by omega)
        obtain ⟨sy, hsy⟩ : ∃ sy, S (y + 1) = sy := ⟨_, rfl⟩
        rw [hsy] at s1 s2 s3
        have HSY := Lib.hid hsy
        clear hsy
        go_wp2_with fail
        refine (KB.out _ _ y _ hlt (HK.out.alloc _) one_row).mono ?_
        rintro e w20 ⟨rfl, b⟩
        have ba := (Below.refl wr.heap.size wr).alloc (Nat.le_refl _) (.cells #[.int .i64 (y : Int)] 3)
        replace HK := Lib.hid ((HK.out.alloc _).below b)
        replace HD := Lib.hid ((HD.out.below ba (Nat.le_refl _)).below b (Nat.le_refl _))
        clear b ba c0 c1 c2
        obtain ⟨c0, c1, c2⟩ := HK.out.cells
        go_wp2_with fail
        refine (KG.out _ _ i _ (y : Int) hic HK.out HD.out).mono ?_
        rintro e w21 ⟨la, n9, lc, hn9, rfl, b⟩
        replace HK := Lib.hid (HK.out.below b)
        replace HD := Lib.hid (HD.out.below b (Nat.le_refl _))
        clear b c0 c1 c2
        obtain ⟨c0, c1, c2⟩ := HK.out.cells
        have n7 : decide ((np : Int) < (n9 : Int)) = false := decide_eq_false (by omega)
        go_wp2
        go_roundw
        case rel => exact ⟨y + 1, by omega, by rw [HSY.out], by go_num, HK, HD⟩
        case measure => simp only [RowKit.intOf]; omega
      · have hyG : y = G := by omega
        subst hyG
        have s4 : S y = c := HSS.out
        have s5 := Lib.hid s4
        clear s4
        rw [s5.out]
        go_wp2_with fail
        refine (KNN.out _ _ (c : Int) (by omega) HK.out).mono ?_
        rintro e w22 ⟨rfl, b⟩
        replace HK := Lib.hid (HK.out.below b)
        have n8 : ((c : Int) == (c : Int)) = true := by simp
        go_wp2
        go_ret
        exact ⟨rfl, HK.out.2.2⟩
  · have n9 : decide ((i : Int) + 1 < (c : Int)) = false := decide_eq_false (by omega)
    go_wp2
    go_loopw [13, 14] (fun sv iv wx => ∃ y : Nat, y ≤ G ∧ sv = .int .i64 (S y : Int) ∧ iv = .int .i64 y ∧ Hid (DK w X1 (.slice fa nf fc) nf F pa np pc (G : Int) (M : Int) T wx) ∧ Hid (IntRow wx (.slice da N dc) N (getI (A i)))) (fun sv iv _ => G - (RowKit.intOf iv).toNat)
    case atStart => exact ⟨0, Nat.zero_le _, by rw [HS0.out]; rfl, rfl, HK, HD⟩
    case round =>
      clear HK HD c0 c1 c2
      obtain ⟨y, hy, rfl, rfl, HK, HD⟩ := hrel
      obtain ⟨c0, c1, c2⟩ := HK.out.cells
      by_cases hlt : y < G
      · have s1 := Lib.hid (HST.out y)
        have s2 := HSB.out (y + 1) hlt
        have s3 : IntKind.i64.wrap ((S y : Int) + (t y : Int)) = (S (y + 1) : Int) := by
          have h9 := s1.out
          rw [show (S y : Int) + (t y : Int) = (S (y + 1) : Int) by omega]
          exact IntWalk.i64_in _ (by omega)
        obtain ⟨sy, hsy⟩ : ∃ sy, S (y + 1) = sy := ⟨_, rfl⟩
        rw [hsy] at s1 s2 s3
        have HSY := Lib.hid hsy
        clear hsy
        go_wp2_with fail
        refine (KB.out _ _ y _ hlt (HK.out.alloc _) one_row).mono ?_
        rintro e w20 ⟨rfl, b⟩
        have ba := (Below.refl wr.heap.size wr).alloc (Nat.le_refl _) (.cells #[.int .i64 (y : Int)] 3)
        replace HK := Lib.hid ((HK.out.alloc _).below b)
        replace HD := Lib.hid ((HD.out.below ba (Nat.le_refl _)).below b (Nat.le_refl _))
        clear b ba c0 c1 c2
        obtain ⟨c0, c1, c2⟩ := HK.out.cells
        go_wp2_with fail
        refine (KG.out _ _ i _ (y : Int) hic HK.out HD.out).mono ?_
        rintro e w21 ⟨la, n9, lc, hn9, rfl, b⟩
        replace HK := Lib.hid (HK.out.below b)
        replace HD := Lib.hid (HD.out.below b (Nat.le_refl _))
        clear b c0 c1 c2
        obtain ⟨c0, c1, c2⟩ := HK.out.cells
        have n7 : decide ((np : Int) < (n9 : Int)) = false := decide_eq_false (by omega)
        go_wp2
        go_roundw
        case rel => exact ⟨y + 1, by omega, by rw [HSY.out], by go_num, HK, HD⟩
        case measure => simp only [RowKit.intOf]; omega
      · have hyG : y = G := by omega
        subst hyG
        have s4 : S y = c := HSS.out
        have s5 := Lib.hid s4
        clear s4
        rw [s5.out]
        go_wp2_with fail
        refine (KNN.out _ _ (c : Int) (by omega) HK.out).mono ?_
        rintro e w22 ⟨rfl, b⟩
        replace HK := Lib.hid (HK.out.below b)
        have n8 : ((c : Int) == (c : Int)) = true := by simp
        go_wp2
        go_ret
        exact ⟨rfl, HK.out.2.2⟩
end Go.Proofs.Ytmhkkdnopcdibaa
