/-
  Packed: TyBnd, CircSpec.
-/
import Derived.Test.YtgemdjcadlejfaaQ2
import Derived.Test.YtgemdjcadlejfaaQ11
set_option linter.unusedVariables false
namespace Go.Proofs.Ytgemdjcadlejfaa
open Go.RowKit

theorem OwN.rdA {T : Ty} {w : World} {lo hi : Nat} {cs : List Value} {d : T.D} (h : OwN T w lo hi cs d) : RdA T w cs d := h.rd.all h.hi_le
def Bnd (T : Ty) (c : Nat) : Prop := ∀ d, T.mks d ≤ c * (T.wt d + 1)
theorem bnd_int : Bnd tInt 1 := fun d => by show 1 ≤ 1 * (0 + 1); omega
theorem bnd_bool : Bnd tBool 1 := fun d => by show 1 ≤ 1 * (0 + 1); omega
theorem bnd_str : Bnd tStr 1 := fun d => by show 1 ≤ 1 * (d.size + 1); omega
theorem bnd_two {a b : Ty} {ca cb : Nat} (ha : Bnd a ca) (hb : Bnd b cb) : Bnd (tTwo a b) (ca + cb) := fun d => by
  have h1 := ha d.1
  have h2 := hb d.2
  show a.mks d.1 + b.mks d.2 ≤ (ca + cb) * (a.wt d.1 + b.wt d.2 + 1)
  have h3 : ca * (a.wt d.1 + 1) ≤ ca * (a.wt d.1 + b.wt d.2 + 1) := Nat.mul_le_mul_left _ (by omega)
  have h4 : cb * (b.wt d.2 + 1) ≤ cb * (a.wt d.1 + b.wt d.2 + 1) := Nat.mul_le_mul_left _ (by omega)
  rw [Nat.add_mul]
  omega
theorem bnd_sl {t : TypeId} {e : Ty} {c : Nat} (h : Bnd e c) : Bnd (tSl t e) c := fun d => by
  have key : ∀ L : List e.D, (L.map e.mks).sum ≤ c * (L.length + (L.map e.wt).sum) := by
    intro L
    induction L with
    | nil => exact Nat.zero_le _
    | cons x L ih =>
      have := h x
      rw [List.map_cons, List.sum_cons, List.map_cons, List.sum_cons, List.length_cons]
      have e1 : c * (L.length + 1 + (e.wt x + (L.map e.wt).sum)) = c * (e.wt x + 1) + c * (L.length + (L.map e.wt).sum) := by rw [← Nat.mul_add]; congr 1; omega
      omega
  exact Nat.le_trans (key d) (Nat.mul_le_mul_left _ (Nat.le_succ _))
theorem Bnd.le {T : Ty} {c : Nat} (h : Bnd T c) {d : T.D} (hw : T.wt d ≤ 1048576) (hc : c ≤ 1000) : T.mks d ≤ 2000000000 := by
  have h1 := h d
  have h2 : c * (T.wt d + 1) ≤ 1000 * 1048577 := Nat.mul_le_mul hc (by omega)
  omega
end Go.Proofs.Ytgemdjcadlejfaa
set_option linter.unusedVariables false
namespace Go.Proofs.Ytgemdjcadlejfaa
open Go.RowKit

set_option maxRecDepth 100000 in
set_option maxHeartbeats 4000000 in
theorem circleRounds_spec (N : Int) (R : Bool) (hR : R = true ↔ (2 ≤ N ∧ N ≤ 8)) (w : World) :
    Calls Try.prog 23 #[.int .i64 N] w (MadeT tPairSS (circR R N) w) := by
  obtain ⟨i0, hi, hz0, hz1, hz2⟩ := info_parts Try.infoPair
  obtain ⟨s0, si, sz0, sz1, sz2⟩ := info_parts Try.infoPairSS
  by_cases hN : 2 ≤ N ∧ N ≤ 8
  case neg =>
    obtain rfl := boolF hR hN
    have HN0 : Hid (OwN tPairSS w w.heap.size w.heap.size [.slice none 0 0] ([] : List PairL)) := ⟨[], ⟨.slice none 0 0, [], fun _ => [], rfl, World.ownsRow_nil _ _ _ _, fun i x hx => (by cases hx), rfl⟩, List.nodup_nil, fun q hq => (by cases hq), Nat.le_refl _⟩
    go_enter Try.func23, Try.ntmps23
    go_wp2_with fail
    refine (l01In_no _ _ _ _ hN).mono ?_
    rintro e wx ⟨rfl, rfl⟩
    go_wp2
    go_ret
    exact ⟨_, rfl, HN0.out, Below.refl _ _⟩
  obtain rfl := boolT hR hN
  obtain ⟨n, rfl⟩ : ∃ n : Nat, N = n := ⟨N.toNat, by omega⟩
  obtain ⟨m, hm⟩ : ∃ m, n + n % 2 = m := ⟨_, rfl⟩
  obtain ⟨h, hh⟩ : ∃ h, m / 2 = h := ⟨_, rfl⟩
  have hm8 : m ≤ 8 := by omega
  have hm2 : 2 ≤ m := by omega
  have hh2 : 2 * h = m := by omega
  have HE : Hid (circR true (n : Int) = circN n m (m - 1)) := by show circL (n : Int).toNat = _; rw [Int.toNat_natCast]; unfold circL; rw [hm]
  rw [HE.out]
  have hE : (n : Int) + (n : Int) % 2 = (m : Int) := by omega
  have hD : (m : Int) / 2 = (h : Int) := by omega
  clear HE hR
  have ON : Hid (RowsAp 30 tPairS (w.alloc (.cells #[] 30)) w.heap.size (.slice (some ⟨w.heap.size, 0, none⟩) 0 0) [] []) := RowsAp.nil (World.ownsRow_lit (e := 30) (size := 1) w #[] 0 (Nat.le_refl _) (by decide) rfl)
  have HB0 : Hid (Below w.heap.size w (w.alloc (.cells #[] 30))) := (Below.refl _ _).alloc (Nat.le_refl _) _
  go_enter Try.func23, Try.ntmps23
  go_wp2_with fail
  refine (l01In_yes _ _ _ _ hN).mono ?_
  rintro e wx ⟨rfl, rfl⟩
  go_wp2
  go_loopw [4, 5] (fun ov rv wr => ∃ (r : Nat) (D : List PairL) (xs : List Value), r ≤ m - 1 ∧ rv = .int .i64 r ∧ List.length (α := PairL) D = r ∧ Hid (D = circN n m r) ∧ Hid (RowsAp 30 tPairS wr w.heap.size ov D xs) ∧ Hid (Below w.heap.size w wr)) (fun _ rv _ => m - (RowKit.intOf rv).toNat)
  case atStart => exact ⟨0, [], [], Nat.zero_le _, rfl, rfl, rfl, ON, HB0⟩
  case round =>
    clear ON HB0
    obtain ⟨r, D, xs, hr9, rfl, hDr, HDD, HA, HB⟩ := hrel
    obtain ⟨oa, oc, hof⟩ := owns_form HA.out.1
    subst hof
    by_cases hlt : r < m - 1
    · have hj1 : (r : Int) < (m : Int) - 1 := by omega
      have HDR := Lib.hid hDr
      have hD7 : List.length (α := tPairS.D) D ≤ 8 := by show List.length (α := PairL) D ≤ 8; omega
      clear hDr
      generalize wr = w1 at *
      have ON : Hid ((w1.alloc (.cells #[] 38)).ownsRow w1.heap.size 38 2 (.slice (some ⟨w1.heap.size, 0, none⟩) 0 0) 0 []) := World.ownsRow_lit (e := 38) (size := 2) w1 #[] 0 (Nat.le_refl _) (by decide) rfl
      have HB0 : Hid (Below w1.heap.size w1 (w1.alloc (.cells #[] 38))) := (Below.refl _ _).alloc (Nat.le_refl _) _
      go_wp2
      go_loopw [6, 7] (fun tv kv wi => ∃ (k : Nat) (T : PairL), k ≤ h ∧ kv = .int .i64 k ∧ List.length (α := tPair.D) T ≤ k ∧ Hid (T = circK n m r k) ∧ Hid (wi.ownsRow w1.heap.size 38 2 tv (List.length (α := tPair.D) T) (pcells T)) ∧ Hid (Below w1.heap.size w1 wi)) (fun _ kv _ => h - (RowKit.intOf kv).toNat)
      case atStart => exact ⟨0, [], Nat.zero_le _, rfl, Nat.le_refl _, rfl, ON, HB0⟩
      case round =>
        clear ON HB0
        obtain ⟨k, T, hk9, rfl, hTk, HTT, HO, HB3⟩ := hrel
        obtain ⟨ta, tc, htf⟩ := owns_form HO.out
        subst htf
        have hs3 := HB3.out.size
        by_cases hlt2 : k < h
        · have hj2 : (k : Int) < (h : Int) := by omega
          have hM0 : (0 : Int) < (m : Int) - 1 := by omega
          have hM1 : (m : Int) - 1 ≤ 1000 := by omega
          have hx1 : -1000 ≤ (r : Int) + (k : Int) ∧ (r : Int) + (k : Int) ≤ 1000 := by omega
          have hx2 : -1000 ≤ (r : Int) - (k : Int) ∧ (r : Int) - (k : Int) ≤ 1000 := by omega
          have hT7 : List.length (α := tPair.D) T ≤ 8 := by omega
          have hb1 := turn_in (x := (r : Int) + k) hM0
          have hb2 := turn_in (x := (r : Int) - k) hM0
          have HSK : Hid (((n : Int) ≤ aK m r k ∨ (n : Int) ≤ bK m r k) → circK n m r (k + 1) = circK n m r k) := fun h => if_pos h
          have HAD : Hid (¬ ((n : Int) ≤ aK m r k ∨ (n : Int) ≤ bK m r k) → circK n m r (k + 1) = circK n m r k ++ [pairK m r k]) := fun h => if_neg h
          have HPR : Hid (pairK m r k = if swapK r k then mkP (bK m r k) (aK m r k) else mkP (aK m r k) (bK m r k)) := rfl
          obtain ⟨B, hBB⟩ : ∃ B, bK m r k = B := ⟨_, rfl⟩
          have hBt : turnN ((r : Int) - k) ((m : Int) - 1) = B := hBB
          rcases Nat.eq_zero_or_pos k with hk0 | hk0
          · have hAt : aK m r k = (m : Int) - 1 := by rw [hk0]; rfl
            rw [hAt, hBB] at HSK HAD HPR
            rw [hBt] at hb2
            have CT1 : Hid (∀ wa : World, Calls Try.prog 56 #[.int .i64 ((r : Int) + (k : Int)), .int .i64 ((m : Int) - 1)] wa fun e w' => (∃ z, e = .returned (.int .i64 z)) ∧ wa = w') := fun wa => (l09Turn_spec ((r : Int) + (k : Int)) ((m : Int) - 1) wa hM0 hM1 hx1).mono fun e w' h => ⟨⟨_, h.1⟩, h.2⟩
            have CT2 : Hid (∀ wa : World, Calls Try.prog 56 #[.int .i64 ((r : Int) - (k : Int)), .int .i64 ((m : Int) - 1)] wa fun e w' => e = .returned (.int .i64 B) ∧ wa = w') := fun wa => (by
              have h9 := l09Turn_spec ((r : Int) - (k : Int)) ((m : Int) - 1) wa hM0 hM1 hx2
              rw [hBt] at h9
              exact h9)
            have gk : ((k : Int) == 0) = true := beq_iff_eq.2 (by omega)
            have gk2 : decide ((0 : Int) < (k : Int)) = false := decide_eq_false (by omega)
            have HK0 := Lib.hid hk0
            clear hBB hBt hAt hb1 hk0
            by_cases hsa : (n : Int) ≤ ((m : Int) - 1)
            · have gg : decide ((n : Int) ≤ ((m : Int) - 1)) = true := decide_eq_true hsa
              have HTN : Hid (T = circK n m r (k + 1)) := HTT.out.trans (HSK.out (.inl hsa)).symm
              clear HSK HAD
              go_wp2_with fail
              refine (CT1.out _).mono ?_
              rintro e wx ⟨⟨z9, rfl⟩, rfl⟩
              go_wp2_with fail
              refine (CT2.out _).mono ?_
              rintro e wx ⟨rfl, rfl⟩
              go_wp2
              go_roundw
              case rel => exact ⟨k + 1, T, by omega, by go_num, by omega, HTN, HO, HB3⟩
              case measure => simp [RowKit.intOf]; omega
            have ga : decide ((n : Int) ≤ ((m : Int) - 1)) = false := decide_eq_false hsa
            by_cases hsb : (n : Int) ≤ B
            · have gg : decide ((n : Int) ≤ B) = true := decide_eq_true hsb
              have HTN : Hid (T = circK n m r (k + 1)) := HTT.out.trans (HSK.out (.inr hsb)).symm
              clear HSK HAD
              go_wp2_with fail
              refine (CT1.out _).mono ?_
              rintro e wx ⟨⟨z9, rfl⟩, rfl⟩
              go_wp2_with fail
              refine (CT2.out _).mono ?_
              rintro e wx ⟨rfl, rfl⟩
              go_wp2
              go_roundw
              case rel => exact ⟨k + 1, T, by omega, by go_num, by omega, HTN, HO, HB3⟩
              case measure => simp [RowKit.intOf]; omega
            have gb : decide ((n : Int) ≤ B) = false := decide_eq_false hsb
            have HAD2 := Lib.hid (HAD.out (fun h => h.elim hsa hsb))
            clear HSK HAD
            by_cases hsw : r % 2 = 1
            · have gs : ((r : Int) % 2 == 1) = true := beq_iff_eq.2 (by omega)
              have HTN : Hid (T ++ [mkP B ((m : Int) - 1)] = circK n m r (k + 1)) := by show _ = _; rw [HAD2.out, HTT.out]; exact congrArg (fun q => circK n m r k ++ [q]) (HPR.out.trans (if_pos (.inl ⟨HK0.out, hsw⟩))).symm
              have HPC : Hid (pcells (T ++ [mkP B ((m : Int) - 1)]) = pcells T ++ [.int .i64 B, .int .i64 ((m : Int) - 1)]) := pcells_push T _
              have HTL : List.length (α := tPair.D) (T ++ [mkP B ((m : Int) - 1)]) ≤ k + 1 := by rw [List.length_append, List.length_singleton]; omega
              clear HAD2 HPR
              go_wp2_with fail
              refine (CT1.out _).mono ?_
              rintro e wx ⟨⟨z9, rfl⟩, rfl⟩
              go_wp2_with fail
              refine (CT2.out _).mono ?_
              rintro e wx ⟨rfl, rfl⟩
              go_wp2_with (at_builtin; refine wpList_pushL rfl (.tmp 71) (.tmp 75) 30 rfl w1.heap.size 38 Try.underlying30 hi hz0 hz1 hz2 rfl (by decide) [.int .i64 B, .int .i64 ((m : Int) - 1)] rfl (by intro u hu; simp at hu; rcases hu with rfl | rfl <;> rfl) rfl (by show Value.slice (some ⟨_, 0, none⟩) 1 1 = _; simp) HO.out (by unfold maxLen; exact Nat.le_trans (Nat.succ_le_succ hT7) (by decide)) (Nat.le_trans (Nat.mul_le_mul_right _ (Nat.succ_le_succ hT7)) (by decide)) hs3 ?_; intro gg5 cc5 w5 o5 g5 at5 lt5; have O5 := Lib.hid o5; have HB5 := Lib.hid (HB3.out.grown g5 hs3 (fun q hq => (HO.out.lt q hq).1)); clear o5 g5 at5 lt5)
              go_roundw
              case rel => exact ⟨k + 1, T ++ [mkP B ((m : Int) - 1)], by omega, by go_num, HTL, HTN, by refine Lib.hid ?_; rw [HPC.out, List.length_append]; exact O5.out, HB5⟩
              case measure => simp [RowKit.intOf]; omega
            · have gs : ((r : Int) % 2 == 1) = false := beq_eq_false_iff_ne.2 (by omega)
              have HTN : Hid (T ++ [mkP ((m : Int) - 1) B] = circK n m r (k + 1)) := by show _ = _; rw [HAD2.out, HTT.out]; exact congrArg (fun q => circK n m r k ++ [q]) (HPR.out.trans (if_neg (fun h => h.elim (fun q => hsw q.2) (fun q => absurd q.1 (by have := HK0.out; omega))))).symm
              have HPC : Hid (pcells (T ++ [mkP ((m : Int) - 1) B]) = pcells T ++ [.int .i64 ((m : Int) - 1), .int .i64 B]) := pcells_push T _
              have HTL : List.length (α := tPair.D) (T ++ [mkP ((m : Int) - 1) B]) ≤ k + 1 := by rw [List.length_append, List.length_singleton]; omega
              clear HAD2 HPR
              go_wp2_with fail
              refine (CT1.out _).mono ?_
              rintro e wx ⟨⟨z9, rfl⟩, rfl⟩
              go_wp2_with fail
              refine (CT2.out _).mono ?_
              rintro e wx ⟨rfl, rfl⟩
              go_wp2_with (at_builtin; refine wpList_pushL rfl (.tmp 77) (.tmp 81) 30 rfl w1.heap.size 38 Try.underlying30 hi hz0 hz1 hz2 rfl (by decide) [.int .i64 ((m : Int) - 1), .int .i64 B] rfl (by intro u hu; simp at hu; rcases hu with rfl | rfl <;> rfl) rfl (by show Value.slice (some ⟨_, 0, none⟩) 1 1 = _; simp) HO.out (by unfold maxLen; exact Nat.le_trans (Nat.succ_le_succ hT7) (by decide)) (Nat.le_trans (Nat.mul_le_mul_right _ (Nat.succ_le_succ hT7)) (by decide)) hs3 ?_; intro gg5 cc5 w5 o5 g5 at5 lt5; have O5 := Lib.hid o5; have HB5 := Lib.hid (HB3.out.grown g5 hs3 (fun q hq => (HO.out.lt q hq).1)); clear o5 g5 at5 lt5)
              go_roundw
              case rel => exact ⟨k + 1, T ++ [mkP ((m : Int) - 1) B], by omega, by go_num, HTL, HTN, by refine Lib.hid ?_; rw [HPC.out, List.length_append]; exact O5.out, HB5⟩
              case measure => simp [RowKit.intOf]; omega
          · obtain ⟨A, hAA⟩ : ∃ A, aK m r k = A := ⟨_, rfl⟩
            have hAt : turnN ((r : Int) + k) ((m : Int) - 1) = A := (if_neg (by omega : ¬ k = 0)).symm.trans hAA
            rw [hAA, hBB] at HSK HAD HPR
            rw [hAt] at hb1
            rw [hBt] at hb2
            have CT1 : Hid (∀ wa : World, Calls Try.prog 56 #[.int .i64 ((r : Int) + (k : Int)), .int .i64 ((m : Int) - 1)] wa fun e w' => e = .returned (.int .i64 A) ∧ wa = w') := fun wa => (by
              have h9 := l09Turn_spec ((r : Int) + (k : Int)) ((m : Int) - 1) wa hM0 hM1 hx1
              rw [hAt] at h9
              exact h9)
            have CT2 : Hid (∀ wa : World, Calls Try.prog 56 #[.int .i64 ((r : Int) - (k : Int)), .int .i64 ((m : Int) - 1)] wa fun e w' => e = .returned (.int .i64 B) ∧ wa = w') := fun wa => (by
              have h9 := l09Turn_spec ((r : Int) - (k : Int)) ((m : Int) - 1) wa hM0 hM1 hx2
              rw [hBt] at h9
              exact h9)
            have gk : ((k : Int) == 0) = false := beq_eq_false_iff_ne.2 (by omega)
            have gk' : ¬ (k : Int) = 0 := by omega
            have gk2 : decide ((0 : Int) < (k : Int)) = true := decide_eq_true (by omega)
            have gk3 : decide (0 < k) = true := decide_eq_true hk0
            clear hBB hBt hAA hAt
            by_cases hsa : (n : Int) ≤ A
            · have gg : decide ((n : Int) ≤ A) = true := decide_eq_true hsa
              have HTN : Hid (T = circK n m r (k + 1)) := HTT.out.trans (HSK.out (.inl hsa)).symm
              clear HSK HAD
              go_wp2_with fail
              refine (CT1.out _).mono ?_
              rintro e wx ⟨rfl, rfl⟩
              go_wp2_with fail
              refine (CT2.out _).mono ?_
              rintro e wx ⟨rfl, rfl⟩
              go_wp2
              go_roundw
              case rel => exact ⟨k + 1, T, by omega, by go_num, by omega, HTN, HO, HB3⟩
              case measure => simp [RowKit.intOf]; omega
            have ga : decide ((n : Int) ≤ A) = false := decide_eq_false hsa
            by_cases hsb : (n : Int) ≤ B
            · have gg : decide ((n : Int) ≤ B) = true := decide_eq_true hsb
              have HTN : Hid (T = circK n m r (k + 1)) := HTT.out.trans (HSK.out (.inr hsb)).symm
              clear HSK HAD
              go_wp2_with fail
              refine (CT1.out _).mono ?_
              rintro e wx ⟨rfl, rfl⟩
              go_wp2_with fail
              refine (CT2.out _).mono ?_
              rintro e wx ⟨rfl, rfl⟩
              go_wp2
              go_roundw
              case rel => exact ⟨k + 1, T, by omega, by go_num, by omega, HTN, HO, HB3⟩
              case measure => simp [RowKit.intOf]; omega
            have gb : decide ((n : Int) ≤ B) = false := decide_eq_false hsb
            have HAD2 := Lib.hid (HAD.out (fun h => h.elim hsa hsb))
            clear HSK HAD
            by_cases hsw : k % 2 = 0
            · have gs : ((k : Int) % 2 == 0) = true := beq_iff_eq.2 (by omega)
              have HTN : Hid (T ++ [mkP B A] = circK n m r (k + 1)) := by show _ = _; rw [HAD2.out, HTT.out]; exact congrArg (fun q => circK n m r k ++ [q]) (HPR.out.trans (if_pos (.inr ⟨hk0, hsw⟩))).symm
              have HPC : Hid (pcells (T ++ [mkP B A]) = pcells T ++ [.int .i64 B, .int .i64 A]) := pcells_push T _
              have HTL : List.length (α := tPair.D) (T ++ [mkP B A]) ≤ k + 1 := by rw [List.length_append, List.length_singleton]; omega
              clear HAD2 HPR
              go_wp2_with fail
              refine (CT1.out _).mono ?_
              rintro e wx ⟨rfl, rfl⟩
              go_wp2_with fail
              refine (CT2.out _).mono ?_
              rintro e wx ⟨rfl, rfl⟩
              go_wp2_with (at_builtin; refine wpList_pushL rfl (.tmp 71) (.tmp 75) 30 rfl w1.heap.size 38 Try.underlying30 hi hz0 hz1 hz2 rfl (by decide) [.int .i64 B, .int .i64 A] rfl (by intro u hu; simp at hu; rcases hu with rfl | rfl <;> rfl) rfl (by show Value.slice (some ⟨_, 0, none⟩) 1 1 = _; simp) HO.out (by unfold maxLen; exact Nat.le_trans (Nat.succ_le_succ hT7) (by decide)) (Nat.le_trans (Nat.mul_le_mul_right _ (Nat.succ_le_succ hT7)) (by decide)) hs3 ?_; intro gg5 cc5 w5 o5 g5 at5 lt5; have O5 := Lib.hid o5; have HB5 := Lib.hid (HB3.out.grown g5 hs3 (fun q hq => (HO.out.lt q hq).1)); clear o5 g5 at5 lt5)
              go_roundw
              case rel => exact ⟨k + 1, T ++ [mkP B A], by omega, by go_num, HTL, HTN, by refine Lib.hid ?_; rw [HPC.out, List.length_append]; exact O5.out, HB5⟩
              case measure => simp [RowKit.intOf]; omega
            · have gs : ((k : Int) % 2 == 0) = false := beq_eq_false_iff_ne.2 (by omega)
              have HTN : Hid (T ++ [mkP A B] = circK n m r (k + 1)) := by show _ = _; rw [HAD2.out, HTT.out]; exact congrArg (fun q => circK n m r k ++ [q]) (HPR.out.trans (if_neg (fun h => h.elim (fun q => absurd q.1 (by omega)) (fun q => hsw q.2)))).symm
              have HPC : Hid (pcells (T ++ [mkP A B]) = pcells T ++ [.int .i64 A, .int .i64 B]) := pcells_push T _
              have HTL : List.length (α := tPair.D) (T ++ [mkP A B]) ≤ k + 1 := by rw [List.length_append, List.length_singleton]; omega
              clear HAD2 HPR
              go_wp2_with fail
              refine (CT1.out _).mono ?_
              rintro e wx ⟨rfl, rfl⟩
              go_wp2_with fail
              refine (CT2.out _).mono ?_
              rintro e wx ⟨rfl, rfl⟩
              go_wp2_with (at_builtin; refine wpList_pushL rfl (.tmp 77) (.tmp 81) 30 rfl w1.heap.size 38 Try.underlying30 hi hz0 hz1 hz2 rfl (by decide) [.int .i64 A, .int .i64 B] rfl (by intro u hu; simp at hu; rcases hu with rfl | rfl <;> rfl) rfl (by show Value.slice (some ⟨_, 0, none⟩) 1 1 = _; simp) HO.out (by unfold maxLen; exact Nat.le_trans (Nat.succ_le_succ hT7) (by decide)) (Nat.le_trans (Nat.mul_le_mul_right _ (Nat.succ_le_succ hT7)) (by decide)) hs3 ?_; intro gg5 cc5 w5 o5 g5 at5 lt5; have O5 := Lib.hid o5; have HB5 := Lib.hid (HB3.out.grown g5 hs3 (fun q hq => (HO.out.lt q hq).1)); clear o5 g5 at5 lt5)
              go_roundw
              case rel => exact ⟨k + 1, T ++ [mkP A B], by omega, by go_num, HTL, HTN, by refine Lib.hid ?_; rw [HPC.out, List.length_append]; exact O5.out, HB5⟩
              case measure => simp [RowKit.intOf]; omega
        obtain rfl : k = h := by omega
        have HTR := HTT
        have hs3 : w.heap.size ≤ w1.heap.size := HB.out.size
        have HOO := Lib.hid (owns_below HA.out.1 HB3.out (Nat.le_refl _))
        have hs4 : w.heap.size ≤ wr.heap.size := Nat.le_trans hs3 HB3.out.size
        have hT9 : List.length (α := tPair.D) T ≤ 9223372036854775807 := by omega
        have HOW : Hid (OwN tPairS wr w1.heap.size wr.heap.size [.slice ta (List.length (α := tPair.D) T) tc] T) := own_pairs HO.out hT9
        have HDN : Hid (D ++ [T] = circN n m (r + 1)) := by show _ = circN n m r ++ [circK n m r (m / 2)]; rw [HDD.out, HTT.out, hh]
        have HBW : Hid (Below w.heap.size w wr) := HB.out.trans (HB3.out.mono hs3)
        generalize hTt : List.length (α := tPair.D) T = tl at *
        go_wp2_with (at_builtin; refine wpList_pushL rfl (.tmp 83) (.tmp 85) 24 rfl w.heap.size 30 Try.underlying24 si sz0 sz1 sz2 rfl (by decide) [.slice ta tl tc] rfl (by intro u hu; simp at hu; subst hu; rfl) rfl (by show Value.slice (some ⟨_, 0, none⟩) 1 1 = _; simp) HOO.out (by unfold maxLen; exact Nat.le_trans (Nat.succ_le_succ hD7) (by decide)) (Nat.le_trans (Nat.mul_le_mul_right _ (Nat.succ_le_succ hD7)) (by decide)) hs4 ?_; intro gg5 cc5 w5 o5 g5 at5 lt5; have O5 := Lib.hid o5; have G5 := Lib.hid g5; have A5 := Lib.hid at5; clear o5 g5 at5 lt5)
        have HAN : Hid (RowsAp 30 tPairS w5 w.heap.size (.slice (some ⟨gg5, 0, none⟩) (List.length (α := PairL) D + 1) cc5) (D ++ [T]) (xs ++ [.slice ta tl tc])) := RowsAp.push HA.out HB3.out HOW.out hs3 G5.out O5.out (at_slice A5.out)
        have HBN : Hid (Below w.heap.size w w5) := HBW.out.grown G5.out hs4 (fun q hq => (HOO.out.lt q hq).1)
        have HDL : Hid (List.length (α := PairL) (D ++ [T]) = r + 1) := by show _ = _; rw [List.length_append, HDR.out]; rfl
        clear HA HO HB3 HOO O5 G5 A5 HOW HBW
        go_roundw
        case rel => exact ⟨r + 1, D ++ [T], _, by omega, by go_num, HDL.out, HDN, HAN, HBN⟩
        case measure => simp [RowKit.intOf]; omega
    obtain rfl : m - 1 = r := by omega
    have HF : Hid (OwN tPairSS wr w.heap.size wr.heap.size [.slice oa (List.length (α := PairL) D) oc] (circN n m (m - 1))) := by
      have h9 := HA.out.own rfl
      rw [HDD.out] at h9 ⊢
      exact h9
    clear HA HDD
    go_wp2
    go_ret
    exact ⟨_, rfl, HF.out, HB.out⟩
end Go.Proofs.Ytgemdjcadlejfaa
