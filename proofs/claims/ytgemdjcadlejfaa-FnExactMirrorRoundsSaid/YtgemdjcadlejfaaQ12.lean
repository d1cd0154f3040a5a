/-
  Packed: CircPairs, CloneP, CircFacts, CircImpl, CircMarks, RoundPlain, TyGame, TyIntS, RndTy.
-/
import Derived.BigRegion
import Derived.WalkSpells
import Derived.Test.YtgemdjcadlejfaaQ1
import Derived.Test.YtgemdjcadlejfaaQ2
import Derived.Test.YtgemdjcadlejfaaQ3
import Derived.Test.YtgemdjcadlejfaaQ4
import Derived.Test.YtgemdjcadlejfaaQ8
import Derived.Test.YtgemdjcadlejfaaQ9
import Derived.Test.YtgemdjcadlejfaaQ10
import Derived.Test.YtgemdjcadlejfaaQ11
set_option linter.unusedVariables false
namespace Go.Proofs.Ytgemdjcadlejfaa
open Go.RowKit

def PairArr (cs : Array Value) (m r k : Nat) : Prop := cs.size = 8 ∧ ∀ i, i < k → cs[i * 2]? = some (.int .i64 (hm (pairK m r i))) ∧ cs[i * 2 + 1]? = some (.int .i64 (aw (pairK m r i)))
theorem PairArr.next {cs ds : Array Value} {m r k : Nat} (h : PairArr cs m r k) (hs : ds.size = 8) (hk : ∀ j, j < k * 2 → ds[j]? = cs[j]?) (h0 : ds[k * 2]? = some (.int .i64 (hm (pairK m r k)))) (h1 : ds[k * 2 + 1]? = some (.int .i64 (aw (pairK m r k)))) : PairArr ds m r (k + 1) := by
  refine ⟨hs, fun i hi => ?_⟩
  by_cases e : i = k
  · subst e; exact ⟨h0, h1⟩
  · rw [hk _ (by omega), hk _ (by omega)]
    exact h.2 i (by omega)
theorem PairArr.two {cs : Array Value} {m r k : Nat} (h : PairArr cs m r k) (hk : k < 4) {x y : Int} (h0 : hm (pairK m r k) = x) (h1 : aw (pairK m r k) = y) : PairArr ((cs.setIfInBounds (k * 2) (.int .i64 x)).setIfInBounds (k * 2 + 1) (.int .i64 y)) m r (k + 1) := by
  have hz := h.1
  refine h.next (by simp [hz]) (fun j hj => ?_) ?_ ?_
  · rw [Array.getElem?_setIfInBounds_ne (by omega), Array.getElem?_setIfInBounds_ne (by omega)]
  · rw [Array.getElem?_setIfInBounds_ne (by omega), Array.getElem?_setIfInBounds_self_of_lt (by omega), h0]
  · rw [Array.getElem?_setIfInBounds_self_of_lt (by simp; omega), h1]
theorem PairArr.four {cs : Array Value} {m r k : Nat} (h : PairArr cs m r k) (hk : k < 4) {x y x' y' : Int} (h0 : hm (pairK m r k) = x) (h1 : aw (pairK m r k) = y) :
    PairArr ((((cs.setIfInBounds (k * 2) (.int .i64 x')).setIfInBounds (k * 2 + 1) (.int .i64 y')).setIfInBounds (k * 2) (.int .i64 x)).setIfInBounds (k * 2 + 1) (.int .i64 y)) m r (k + 1) := by
  have hz := h.1
  refine h.next (by simp [hz]) (fun j hj => ?_) ?_ ?_
  · rw [Array.getElem?_setIfInBounds_ne (by omega), Array.getElem?_setIfInBounds_ne (by omega), Array.getElem?_setIfInBounds_ne (by omega), Array.getElem?_setIfInBounds_ne (by omega)]
  · rw [Array.getElem?_setIfInBounds_ne (by omega), Array.getElem?_setIfInBounds_self_of_lt (by simp; omega), h0]
  · rw [Array.getElem?_setIfInBounds_self_of_lt (by simp; omega), h1]
theorem turn_pos {x m : Int} (h : 0 < m) (hx : 0 ≤ x) : turnN x m = x % m := by
  unfold turnN
  rw [Int.tmod_eq_emod_of_nonneg hx, Int.tmod_eq_emod_of_nonneg (by have := Int.emod_nonneg x (show m ≠ 0 by omega); omega), Int.add_emod_right, Int.emod_emod_of_dvd _ (Int.dvd_refl m)]
theorem turn_sub {x m : Int} (h : 0 < m) (h1 : -m < x) (h2 : x < m) : turnN x m = (x + m) % m := by
  have e : x.tmod m = x := by
    by_cases hx : 0 ≤ x
    · exact Int.tmod_eq_of_lt hx h2
    · have h3 : (-x).tmod m = -x := Int.tmod_eq_of_lt (by omega) (by omega)
      rw [Int.neg_tmod] at h3
      omega
  unfold turnN
  rw [e, Int.tmod_eq_emod_of_nonneg (by omega)]
theorem all_set {cs : Array Value} (h : cs.all (·.oneCell') = true) (j : Nat) (x : Int) : (cs.setIfInBounds j (.int .i64 x)).all (·.oneCell') = true := by
  refine Array.all_eq_true_iff_forall_mem.2 fun v hv => ?_
  rcases Array.mem_or_eq_of_mem_setIfInBounds hv with h1 | h1
  · exact Array.all_eq_true_iff_forall_mem.1 h v h1
  · subst h1; rfl
theorem Whole.two {w : World} {B : Nat} {cs : Array Value} {t : TypeId} (h : Whole w B cs t) (j k : Nat) (u v : Value) : Whole ((w.setCell ⟨B, j, none⟩ u).setCell ⟨B, k, none⟩ v) B ((cs.setIfInBounds j u).setIfInBounds k v) t := (h.set j u).set k v
set_option maxRecDepth 100000 in
set_option maxHeartbeats 4000000 in
theorem circlePairs_impl (m h r : Nat) (hh : 2 * h = m) (hm8 : m ≤ 8) (hh0 : 0 < h) (hr : r < m - 1) (w : World) :
    Calls Try.prog 46 #[.int .i64 m, .int .i64 r] w fun e w' => ∃ cs : Array Value, e = .returned (.agg cs) ∧ PairArr cs m r h ∧ cs.all (·.oneCell') = true ∧ Below w.heap.size w w' := by
  have hD : (m : Int) / 2 = (h : Int) := by omega
  obtain ⟨U, hU⟩ : ∃ U, (w.alloc (.cells #[.int .i64 0, .int .i64 0, .int .i64 0, .int .i64 0, .int .i64 0, .int .i64 0, .int .i64 0, .int .i64 0] 58)).alloc (.cells #[.int .i64 0, .int .i64 0, .int .i64 0, .int .i64 0, .int .i64 0, .int .i64 0, .int .i64 0, .int .i64 0] 58) = U := ⟨_, rfl⟩
  have hs1 : (w.alloc (.cells #[.int .i64 0, .int .i64 0, .int .i64 0, .int .i64 0, .int .i64 0, .int .i64 0, .int .i64 0, .int .i64 0] 58)).heap.size = w.heap.size + 1 := by simp
  have HWR : Hid (∃ zs : Array Value, zs.size = 8 ∧ Whole U w.heap.size zs 58) := by
    rw [← hU]
    exact ⟨#[.int .i64 0, .int .i64 0, .int .i64 0, .int .i64 0, .int .i64 0, .int .i64 0, .int .i64 0, .int .i64 0], rfl, (Whole.made w #[.int .i64 0, .int .i64 0, .int .i64 0, .int .i64 0, .int .i64 0, .int .i64 0, .int .i64 0, .int .i64 0] 58).below ((Below.refl _ _).alloc (Nat.le_refl _) _)⟩
  have HWC : Hid (∃ zs : Array Value, zs.size = 8 ∧ Whole U (w.heap.size + 1) zs 58) := by
    rw [← hU, ← hs1]
    exact ⟨#[.int .i64 0, .int .i64 0, .int .i64 0, .int .i64 0, .int .i64 0, .int .i64 0, .int .i64 0, .int .i64 0], rfl, Whole.made _ #[.int .i64 0, .int .i64 0, .int .i64 0, .int .i64 0, .int .i64 0, .int .i64 0, .int .i64 0, .int .i64 0] 58⟩
  have HBU : Hid (Below w.heap.size w U) := by
    rw [← hU]
    exact ((Below.refl _ _).alloc (Nat.le_refl _) _).alloc (by simp) _
  obtain ⟨zs, hz1, hz2⟩ := HWC.out
  have HZ1 := Lib.hid hz1
  have HZ2 := Lib.hid hz2
  have HSZQ : Hid ((Try.prog.info? 58).map (·.size) = some 8) := by show _ = _; kernel_rfl
  clear hz1 hz2 HWC hs1
  have HAL : Hid ((#[.int .i64 ((m : Int) - 1), .int .i64 (r : Int), .int .i64 0, .int .i64 0, .int .i64 0, .int .i64 0, .int .i64 0, .int .i64 0] : Array Value).all (·.oneCell') = true) := by show _ = _; first | rfl | decide | simp [Value.oneCell']
  have HPA0 : Hid (PairArr #[.int .i64 ((m : Int) - 1), .int .i64 (r : Int), .int .i64 0, .int .i64 0, .int .i64 0, .int .i64 0, .int .i64 0, .int .i64 0] m r 0) := ⟨rfl, fun i hi => absurd hi (Nat.not_lt_zero _)⟩
  have HA0 : Hid (aK m r 0 = (m : Int) - 1) := rfl
  have HB0 : Hid (bK m r 0 = (r : Int)) := by
    show turnN ((r : Int) - ((0 : Nat) : Int)) ((m : Int) - 1) = _
    have e : (r : Int) - ((0 : Nat) : Int) = r := by omega
    rw [e, turn_pos (by omega) (by omega), Int.emod_eq_of_lt (by omega) (by omega)]
  have HW1 : Hid (Whole (U.setRow (w.heap.size + 1) #[.int .i64 ((m : Int) - 1), .int .i64 (r : Int), .int .i64 0, .int .i64 0, .int .i64 0, .int .i64 0, .int .i64 0, .int .i64 0]) (w.heap.size + 1) #[.int .i64 ((m : Int) - 1), .int .i64 (r : Int), .int .i64 0, .int .i64 0, .int .i64 0, .int .i64 0, .int .i64 0, .int .i64 0] 58) := HZ2.out.setRow
  have HR1 : Hid (∃ zs : Array Value, zs.size = 8 ∧ Whole (U.setRow (w.heap.size + 1) #[.int .i64 ((m : Int) - 1), .int .i64 (r : Int), .int .i64 0, .int .i64 0, .int .i64 0, .int .i64 0, .int .i64 0, .int .i64 0]) w.heap.size zs 58) := by obtain ⟨ys, h1, h2⟩ := HWR.out; exact ⟨ys, h1, (setRow_other U (w.heap.size + 1) w.heap.size #[.int .i64 ((m : Int) - 1), .int .i64 (r : Int), .int .i64 0, .int .i64 0, .int .i64 0, .int .i64 0, .int .i64 0, .int .i64 0] (by omega)).trans h2⟩
  have HB1 : Hid (Below w.heap.size w (U.setRow (w.heap.size + 1) #[.int .i64 ((m : Int) - 1), .int .i64 (r : Int), .int .i64 0, .int .i64 0, .int .i64 0, .int .i64 0, .int .i64 0, .int .i64 0])) := below_setRow HBU.out (Nat.le_succ _)
  clear HWR HBU
  obtain ⟨V, hV⟩ : ∃ V, U.setRow (w.heap.size + 1) #[.int .i64 ((m : Int) - 1), .int .i64 (r : Int), .int .i64 0, .int .i64 0, .int .i64 0, .int .i64 0, .int .i64 0, .int .i64 0] = V := ⟨_, rfl⟩
  rw [hV] at HW1 HR1 HB1
  have HPR : Hid (pairK m r 0 = if swapK r 0 then mkP (r : Int) ((m : Int) - 1) else mkP ((m : Int) - 1) (r : Int)) := by show _ = _; rw [← HB0.out]; exact rfl
  have HPS : Hid (r % 2 = 1 → pairK m r 0 = mkP (r : Int) ((m : Int) - 1)) := fun e => HPR.out.trans (if_pos (.inl ⟨rfl, e⟩))
  have HPN : Hid (¬ r % 2 = 1 → pairK m r 0 = mkP ((m : Int) - 1) (r : Int)) := fun e => HPR.out.trans (if_neg (fun q => q.elim (fun s => e s.2) (fun s => absurd s.1 (Nat.lt_irrefl 0))))
  clear HPR HA0 HB0
  by_cases hsw : r % 2 = 1
  · have gs : ((r : Int) % 2 == 1) = true := beq_iff_eq.2 (by omega)
    have HPK := Lib.hid (HPS.out hsw)
    have v0 : (#[.int .i64 ((m : Int) - 1), .int .i64 (r : Int), .int .i64 0, .int .i64 0, .int .i64 0, .int .i64 0, .int .i64 0, .int .i64 0] : Array Value)[0]? = some (.int .i64 ((m : Int) - 1)) := rfl
    have v1 : (#[.int .i64 ((m : Int) - 1), .int .i64 (r : Int), .int .i64 0, .int .i64 0, .int .i64 0, .int .i64 0, .int .i64 0, .int .i64 0] : Array Value)[1]? = some (.int .i64 (r : Int)) := rfl
    have c0 := HW1.out.cell v0
    have c1 := HW1.out.cell v1
    have HPA1 : Hid (PairArr (((#[.int .i64 ((m : Int) - 1), .int .i64 (r : Int), .int .i64 0, .int .i64 0, .int .i64 0, .int .i64 0, .int .i64 0, .int .i64 0] : Array Value).setIfInBounds 0 (.int .i64 (r : Int))).setIfInBounds 1 (.int .i64 ((m : Int) - 1))) m r 1) := PairArr.two HPA0.out (by decide) (by rw [HPK.out]; rfl) (by rw [HPK.out]; rfl)
    have HAL1 := Lib.hid (all_set (all_set HAL.out 0 (r : Int)) 1 ((m : Int) - 1))
    clear HPS HPN HPA0 HPK hsw v0 v1
    go_enter Try.func46, Try.ntmps46
    go_wp2_with (refine wpList_store_row rfl 58 (.tmp 6) (.tmp 13) rfl (w.heap.size + 1) #[.int .i64 ((m : Int) - 1), .int .i64 (r : Int), .int .i64 0, .int .i64 0, .int .i64 0, .int .i64 0, .int .i64 0, .int .i64 0] rfl rfl 58 zs HZ2.out HSZQ.out HZ1.out HAL.out ?_; rw [hV])
    refine (exchanged_impl ((m : Int) - 1) (r : Int) _).mono ?_
    rintro e w2 ⟨rfl, b2⟩
    clear hU hV
    have HW0 := Lib.hid (HW1.out.below b2)
    have HR0 : Hid (∃ zs : Array Value, zs.size = 8 ∧ Whole w2 w.heap.size zs 58) := by obtain ⟨ys, h1, h2⟩ := HR1.out; exact ⟨ys, h1, h2.below b2⟩
    have HB0 := Lib.hid (HB1.out.trans (b2.mono HB1.out.size))
    have d0 := HW0.out.cell (show (#[.int .i64 ((m : Int) - 1), .int .i64 (r : Int), .int .i64 0, .int .i64 0, .int .i64 0, .int .i64 0, .int .i64 0, .int .i64 0] : Array Value)[0]? = some (.int .i64 ((m : Int) - 1)) from rfl)
    have d1 := HW0.out.cell (show (#[.int .i64 ((m : Int) - 1), .int .i64 (r : Int), .int .i64 0, .int .i64 0, .int .i64 0, .int .i64 0, .int .i64 0, .int .i64 0] : Array Value)[1]? = some (.int .i64 (r : Int)) from rfl)
    have f0 := HW0.out.free 0
    have f1 := HW0.out.free 1
    have HW2 := Lib.hid (HW0.out.two 0 1 (.int .i64 (r : Int)) (.int .i64 ((m : Int) - 1)))
    have HR2 : Hid (∃ zs : Array Value, zs.size = 8 ∧ Whole ((w2.setCell ⟨w.heap.size + 1, 0, none⟩ (.int .i64 (r : Int))).setCell ⟨w.heap.size + 1, 1, none⟩ (.int .i64 ((m : Int) - 1))) w.heap.size zs 58) := by obtain ⟨ys, h1, h2⟩ := HR0.out; exact ⟨ys, h1, (h2.other ⟨w.heap.size + 1, 0, none⟩ _ (by show w.heap.size + 1 ≠ _; omega)).other ⟨w.heap.size + 1, 1, none⟩ _ (by show w.heap.size + 1 ≠ _; omega)⟩
    have HB2 : Hid (Below w.heap.size w ((w2.setCell ⟨w.heap.size + 1, 0, none⟩ (.int .i64 (r : Int))).setCell ⟨w.heap.size + 1, 1, none⟩ (.int .i64 ((m : Int) - 1)))) := (HB0.out.setCell (p := ⟨w.heap.size + 1, 0, none⟩) (Nat.le_succ _) _).setCell (p := ⟨w.heap.size + 1, 1, none⟩) (Nat.le_succ _) _
    clear c0 c1 b2 HW1 HR1 HB1 HW0 HR0 HB0
    go_wp2
    go_loopw [7] (fun kv wr => ∃ (k : Nat) (cs : Array Value), 1 ≤ k ∧ k ≤ h ∧ kv = .int .i64 k ∧ Hid (PairArr cs m r k) ∧ Hid (cs.all (·.oneCell') = true) ∧ Hid (Whole wr (w.heap.size + 1) cs 58) ∧ Hid (∃ zs : Array Value, zs.size = 8 ∧ Whole wr w.heap.size zs 58) ∧ Hid (Below w.heap.size w wr)) (fun kv _ => h - (RowKit.intOf kv).toNat)
    case atStart => exact ⟨1, _, Nat.le_refl _, by omega, rfl, HPA1, HAL1, HW2, HR2, HB2⟩
    case round =>
      clear HPA1 HAL1 HW2 HR2 HB2
      obtain ⟨k, cs, hk1, hk9, rfl, HPA, HAC, HW, HRZ, HB⟩ := hrel
      by_cases hlt : k < h
      · have hj1 : (k : Int) < (h : Int) := by omega
        have k4 : k < 4 := by omega
        have k4' : (k : Int) < 4 := by omega
        have hcz := HPA.out.1
        obtain ⟨A, hA⟩ : ∃ A, ((r : Int) + (k : Int)) % ((m : Int) - 1) = A := ⟨_, rfl⟩
        obtain ⟨B, hB⟩ : ∃ B, ((r : Int) - (k : Int) + ((m : Int) - 1)) % ((m : Int) - 1) = B := ⟨_, rfl⟩
        have tA : ((r : Int) + (k : Int)).tmod ((m : Int) - 1) = A := by rw [Int.tmod_eq_emod_of_nonneg (by omega)]; exact hA
        have tB : ((r : Int) - (k : Int) + ((m : Int) - 1)).tmod ((m : Int) - 1) = B := by rw [Int.tmod_eq_emod_of_nonneg (by omega)]; exact hB
        have HAK : Hid (aK m r k = A) := by show _ = _; unfold aK; rw [if_neg (by omega), turn_pos (by omega) (by omega)]; exact hA
        have HBK : Hid (bK m r k = B) := by show _ = _; unfold bK; rw [turn_sub (by omega) (by omega) (by omega)]; exact hB
        have s1 : IntKind.i64.wrap ((r : Int) + (k : Int)) = (r : Int) + (k : Int) := IntWalk.i64_in _ (by omega)
        have s2 : IntKind.i64.wrap ((r : Int) - (k : Int)) = (r : Int) - (k : Int) := IntWalk.i64_in _ (by omega)
        have s3 : IntKind.i64.wrap ((r : Int) - (k : Int) + ((m : Int) - 1)) = (r : Int) - (k : Int) + ((m : Int) - 1) := IntWalk.i64_in _ (by omega)
        have z1 : ((m : Int) - 1 == 0) = false := beq_eq_false_iff_ne.2 (by omega)
        have z2 : ¬ (m : Int) - 1 = 0 := by omega
        obtain ⟨u0, hu0⟩ : ∃ u0, cs[k * 2]? = some u0 := ⟨_, Array.getElem?_eq_getElem (by omega)⟩
        obtain ⟨u1, hu1⟩ : ∃ u1, cs[k * 2 + 1]? = some u1 := ⟨_, Array.getElem?_eq_getElem (by omega)⟩
        have c0 := HW.out.cell hu0
        have c1 := HW.out.cell hu1
        have f0 := HW.out.free (k * 2)
        have f1 := HW.out.free (k * 2 + 1)
        have HW3 : Hid (Whole (((wr.setCell ⟨w.heap.size + 1, k * 2, none⟩ (.int .i64 A)).setCell ⟨w.heap.size + 1, k * 2 + 1, none⟩ (.int .i64 B)).drew) (w.heap.size + 1) ((cs.setIfInBounds (k * 2) (.int .i64 A)).setIfInBounds (k * 2 + 1) (.int .i64 B)) 58) := (HW.out.two (k * 2) (k * 2 + 1) (.int .i64 A) (.int .i64 B)).below (Below.refl _ _).drew
        have HR3 : Hid (∃ zs : Array Value, zs.size = 8 ∧ Whole (((wr.setCell ⟨w.heap.size + 1, k * 2, none⟩ (.int .i64 A)).setCell ⟨w.heap.size + 1, k * 2 + 1, none⟩ (.int .i64 B)).drew) w.heap.size zs 58) := by obtain ⟨ys, h1, h2⟩ := HRZ.out; exact ⟨ys, h1, ((h2.other ⟨w.heap.size + 1, k * 2, none⟩ _ (by show w.heap.size + 1 ≠ _; omega)).other ⟨w.heap.size + 1, k * 2 + 1, none⟩ _ (by show w.heap.size + 1 ≠ _; omega)).below (Below.refl _ _).drew⟩
        have HB3 : Hid (Below w.heap.size w (((wr.setCell ⟨w.heap.size + 1, k * 2, none⟩ (.int .i64 A)).setCell ⟨w.heap.size + 1, k * 2 + 1, none⟩ (.int .i64 B)).drew)) := ((HB.out.setCell (p := ⟨w.heap.size + 1, k * 2, none⟩) (Nat.le_succ _) _).setCell (p := ⟨w.heap.size + 1, k * 2 + 1, none⟩) (Nat.le_succ _) _).drew
        have HA3 : Hid (((cs.setIfInBounds (k * 2) (.int .i64 A)).setIfInBounds (k * 2 + 1) (.int .i64 B)).all (·.oneCell') = true) := all_set (all_set HAC.out _ _) _ _
        by_cases hsw : k % 2 = 0
        · have gs : ((k : Int) % 2 == 0) = true := beq_iff_eq.2 (by omega)
          have HPK : Hid (pairK m r k = mkP B A) := by show _ = _; unfold pairK; rw [if_pos (.inr ⟨by omega, hsw⟩), HAK.out, HBK.out]
          have HPN : Hid (PairArr ((((cs.setIfInBounds (k * 2) (.int .i64 A)).setIfInBounds (k * 2 + 1) (.int .i64 B)).setIfInBounds (k * 2) (.int .i64 B)).setIfInBounds (k * 2 + 1) (.int .i64 A)) m r (k + 1)) := HPA.out.four k4 (by rw [HPK.out]; rfl) (by rw [HPK.out]; rfl)
          have HAN := Lib.hid (all_set (all_set HA3.out (k * 2) B) (k * 2 + 1) A)
          have d0 : ((cs.setIfInBounds (k * 2) (.int .i64 A)).setIfInBounds (k * 2 + 1) (.int .i64 B))[k * 2]? = some (.int .i64 A) := by rw [Array.getElem?_setIfInBounds_ne (by omega), Array.getElem?_setIfInBounds_self_of_lt (by omega)]
          have d1 : ((cs.setIfInBounds (k * 2) (.int .i64 A)).setIfInBounds (k * 2 + 1) (.int .i64 B))[k * 2 + 1]? = some (.int .i64 B) := by rw [Array.getElem?_setIfInBounds_self_of_lt (by simp; omega)]
          have HD0 := Lib.hid d0
          have HD1 := Lib.hid d1
          clear d0 d1 hA hB HAK HBK HPK hu0 hu1 hcz HPA HAC HA3
          go_wp2_with fail
          go_region
          clear c0 c1 f0 f1 HW HRZ HB
          generalize ((wr.setCell ⟨w.heap.size + 1, k * 2, none⟩ (.int .i64 A)).setCell ⟨w.heap.size + 1, k * 2 + 1, none⟩ (.int .i64 B)).drew = w3 at *
          have e0 := HW3.out.cell HD0.out
          have e1 := HW3.out.cell HD1.out
          go_wp2_with fail
          refine (exchanged_impl A B _).mono ?_
          rintro e w4 ⟨rfl, b4⟩
          have HW4 := Lib.hid (HW3.out.below b4)
          have HR4 : Hid (∃ zs : Array Value, zs.size = 8 ∧ Whole w4 w.heap.size zs 58) := by obtain ⟨ys, h1, h2⟩ := HR3.out; exact ⟨ys, h1, h2.below b4⟩
          have HB4 := Lib.hid (HB3.out.trans (b4.mono HB3.out.size))
          have g0 := HW4.out.cell HD0.out
          have g1 := HW4.out.cell HD1.out
          have i0 := HW4.out.free (k * 2)
          have i1 := HW4.out.free (k * 2 + 1)
          have HW5 := Lib.hid (HW4.out.two (k * 2) (k * 2 + 1) (.int .i64 B) (.int .i64 A))
          have HR5 : Hid (∃ zs : Array Value, zs.size = 8 ∧ Whole ((w4.setCell ⟨w.heap.size + 1, k * 2, none⟩ (.int .i64 B)).setCell ⟨w.heap.size + 1, k * 2 + 1, none⟩ (.int .i64 A)) w.heap.size zs 58) := by obtain ⟨ys, h1, h2⟩ := HR4.out; exact ⟨ys, h1, (h2.other ⟨w.heap.size + 1, k * 2, none⟩ _ (by show w.heap.size + 1 ≠ _; omega)).other ⟨w.heap.size + 1, k * 2 + 1, none⟩ _ (by show w.heap.size + 1 ≠ _; omega)⟩
          have HB5 : Hid (Below w.heap.size w ((w4.setCell ⟨w.heap.size + 1, k * 2, none⟩ (.int .i64 B)).setCell ⟨w.heap.size + 1, k * 2 + 1, none⟩ (.int .i64 A))) := (HB4.out.setCell (p := ⟨w.heap.size + 1, k * 2, none⟩) (Nat.le_succ _) _).setCell (p := ⟨w.heap.size + 1, k * 2 + 1, none⟩) (Nat.le_succ _) _
          clear e0 e1 b4 HW3 HR3 HB3 HW4 HR4 HB4
          go_wp2
          go_roundw
          case rel => exact ⟨k + 1, _, by omega, by omega, by go_num, HPN, HAN, HW5, HR5, HB5⟩
          case measure => simp [RowKit.intOf]; omega
        · have gs : ((k : Int) % 2 == 0) = false := beq_eq_false_iff_ne.2 (by omega)
          have HPK : Hid (pairK m r k = mkP A B) := by show _ = _; unfold pairK; rw [if_neg (fun q => q.elim (fun s => absurd s.1 (by omega)) (fun s => hsw s.2)), HAK.out, HBK.out]
          have HPN : Hid (PairArr ((cs.setIfInBounds (k * 2) (.int .i64 A)).setIfInBounds (k * 2 + 1) (.int .i64 B)) m r (k + 1)) := HPA.out.two k4 (by rw [HPK.out]; rfl) (by rw [HPK.out]; rfl)
          clear hA hB HAK HBK HPK hu0 hu1 hcz HPA HAC
          go_wp2_with fail
          go_region
          clear c0 c1 f0 f1 HW HRZ HB
          go_wp2
          go_roundw
          case rel => exact ⟨k + 1, _, by omega, by omega, by go_num, HPN, HA3, HW3, HR3, HB3⟩
          case measure => simp [RowKit.intOf]; omega
      obtain rfl : k = h := by omega
      obtain ⟨ys, hy1, hy2⟩ := HRZ.out
      have HSZ : Hid ((Try.prog.info? 58).map (·.size) = some cs.size) := by show _ = _; rw [HPA.out.1]; exact HSZQ.out
      have HSE : Hid (ys.size = cs.size) := hy1.trans HPA.out.1.symm
      have HY2 := Lib.hid hy2
      have HLD : Hid ((loadVar 58 ⟨w.heap.size, 0, none⟩).run Try.prog (wr.setRow w.heap.size cs) = .ok (.agg cs) (wr.setRow w.heap.size cs)) := run_loadVar_row _ _ 58 58 cs (0, 0) _ HY2.out.setRow Try.underlying58 rfl HSZ.out
      have HBx : Hid (Below w.heap.size w (wr.setRow w.heap.size cs)) := below_setRow HB.out (Nat.le_refl _)
      clear hy1 hy2 HRZ
      go_wp2_with (first | (refine wpList_load_row rfl 58 (.tmp 6) rfl (w.heap.size + 1) rfl 58 cs (0, 0) _ HW.out Try.underlying58 rfl HSZ.out ?_) | (refine wpList_store_row rfl 58 (.tmp 4) (.tmp 51) rfl w.heap.size cs rfl rfl 58 ys HY2.out HSZ.out HSE.out HAC.out ?_))
      refine bodyPost_ret (v := .agg cs) (results_cell1 (Try.results46) rfl HLD.out) rfl ⟨cs, rfl, HPA.out, HAC.out, HBx.out⟩
  · have gs : ((r : Int) % 2 == 1) = false := beq_eq_false_iff_ne.2 (by omega)
    have HPK := Lib.hid (HPN.out hsw)
    have HPA1 : Hid (PairArr #[.int .i64 ((m : Int) - 1), .int .i64 (r : Int), .int .i64 0, .int .i64 0, .int .i64 0, .int .i64 0, .int .i64 0, .int .i64 0] m r 1) := PairArr.next HPA0.out rfl (fun j hj => absurd hj (by omega)) (by rw [HPK.out]; rfl) (by rw [HPK.out]; rfl)
    have HAL1 := HAL
    have HW2 := HW1
    have HR2 := HR1
    have HB2 := HB1
    clear HPS HPN HPA0 HPK hsw HW1 HR1 HB1
    go_enter Try.func46, Try.ntmps46
    go_wp2_with (refine wpList_store_row rfl 58 (.tmp 6) (.tmp 13) rfl (w.heap.size + 1) #[.int .i64 ((m : Int) - 1), .int .i64 (r : Int), .int .i64 0, .int .i64 0, .int .i64 0, .int .i64 0, .int .i64 0, .int .i64 0] rfl rfl 58 zs HZ2.out HSZQ.out HZ1.out HAL.out ?_; rw [hV])
    go_loopw [7] (fun kv wr => ∃ (k : Nat) (cs : Array Value), 1 ≤ k ∧ k ≤ h ∧ kv = .int .i64 k ∧ Hid (PairArr cs m r k) ∧ Hid (cs.all (·.oneCell') = true) ∧ Hid (Whole wr (w.heap.size + 1) cs 58) ∧ Hid (∃ zs : Array Value, zs.size = 8 ∧ Whole wr w.heap.size zs 58) ∧ Hid (Below w.heap.size w wr)) (fun kv _ => h - (RowKit.intOf kv).toNat)
    case atStart => exact ⟨1, _, Nat.le_refl _, by omega, rfl, HPA1, HAL1, HW2, HR2, HB2⟩
    case round =>
      clear HPA1 HAL1 HW2 HR2 HB2
      obtain ⟨k, cs, hk1, hk9, rfl, HPA, HAC, HW, HRZ, HB⟩ := hrel
      by_cases hlt : k < h
      · have hj1 : (k : Int) < (h : Int) := by omega
        have k4 : k < 4 := by omega
        have k4' : (k : Int) < 4 := by omega
        have hcz := HPA.out.1
        obtain ⟨A, hA⟩ : ∃ A, ((r : Int) + (k : Int)) % ((m : Int) - 1) = A := ⟨_, rfl⟩
        obtain ⟨B, hB⟩ : ∃ B, ((r : Int) - (k : Int) + ((m : Int) - 1)) % ((m : Int) - 1) = B := ⟨_, rfl⟩
        have tA : ((r : Int) + (k : Int)).tmod ((m : Int) - 1) = A := by rw [Int.tmod_eq_emod_of_nonneg (by omega)]; exact hA
        have tB : ((r : Int) - (k : Int) + ((m : Int) - 1)).tmod ((m : Int) - 1) = B := by rw [Int.tmod_eq_emod_of_nonneg (by omega)]; exact hB
        have HAK : Hid (aK m r k = A) := by show _ = _; unfold aK; rw [if_neg (by omega), turn_pos (by omega) (by omega)]; exact hA
        have HBK : Hid (bK m r k = B) := by show _ = _; unfold bK; rw [turn_sub (by omega) (by omega) (by omega)]; exact hB
        have s1 : IntKind.i64.wrap ((r : Int) + (k : Int)) = (r : Int) + (k : Int) := IntWalk.i64_in _ (by omega)
        have s2 : IntKind.i64.wrap ((r : Int) - (k : Int)) = (r : Int) - (k : Int) := IntWalk.i64_in _ (by omega)
        have s3 : IntKind.i64.wrap ((r : Int) - (k : Int) + ((m : Int) - 1)) = (r : Int) - (k : Int) + ((m : Int) - 1) := IntWalk.i64_in _ (by omega)
        have z1 : ((m : Int) - 1 == 0) = false := beq_eq_false_iff_ne.2 (by omega)
        have z2 : ¬ (m : Int) - 1 = 0 := by omega
        obtain ⟨u0, hu0⟩ : ∃ u0, cs[k * 2]? = some u0 := ⟨_, Array.getElem?_eq_getElem (by omega)⟩
        obtain ⟨u1, hu1⟩ : ∃ u1, cs[k * 2 + 1]? = some u1 := ⟨_, Array.getElem?_eq_getElem (by omega)⟩
        have c0 := HW.out.cell hu0
        have c1 := HW.out.cell hu1
        have f0 := HW.out.free (k * 2)
        have f1 := HW.out.free (k * 2 + 1)
        have HW3 : Hid (Whole (((wr.setCell ⟨w.heap.size + 1, k * 2, none⟩ (.int .i64 A)).setCell ⟨w.heap.size + 1, k * 2 + 1, none⟩ (.int .i64 B)).drew) (w.heap.size + 1) ((cs.setIfInBounds (k * 2) (.int .i64 A)).setIfInBounds (k * 2 + 1) (.int .i64 B)) 58) := (HW.out.two (k * 2) (k * 2 + 1) (.int .i64 A) (.int .i64 B)).below (Below.refl _ _).drew
        have HR3 : Hid (∃ zs : Array Value, zs.size = 8 ∧ Whole (((wr.setCell ⟨w.heap.size + 1, k * 2, none⟩ (.int .i64 A)).setCell ⟨w.heap.size + 1, k * 2 + 1, none⟩ (.int .i64 B)).drew) w.heap.size zs 58) := by obtain ⟨ys, h1, h2⟩ := HRZ.out; exact ⟨ys, h1, ((h2.other ⟨w.heap.size + 1, k * 2, none⟩ _ (by show w.heap.size + 1 ≠ _; omega)).other ⟨w.heap.size + 1, k * 2 + 1, none⟩ _ (by show w.heap.size + 1 ≠ _; omega)).below (Below.refl _ _).drew⟩
        have HB3 : Hid (Below w.heap.size w (((wr.setCell ⟨w.heap.size + 1, k * 2, none⟩ (.int .i64 A)).setCell ⟨w.heap.size + 1, k * 2 + 1, none⟩ (.int .i64 B)).drew)) := ((HB.out.setCell (p := ⟨w.heap.size + 1, k * 2, none⟩) (Nat.le_succ _) _).setCell (p := ⟨w.heap.size + 1, k * 2 + 1, none⟩) (Nat.le_succ _) _).drew
        have HA3 : Hid (((cs.setIfInBounds (k * 2) (.int .i64 A)).setIfInBounds (k * 2 + 1) (.int .i64 B)).all (·.oneCell') = true) := all_set (all_set HAC.out _ _) _ _
        by_cases hsw : k % 2 = 0
        · have gs : ((k : Int) % 2 == 0) = true := beq_iff_eq.2 (by omega)
          have HPK : Hid (pairK m r k = mkP B A) := by show _ = _; unfold pairK; rw [if_pos (.inr ⟨by omega, hsw⟩), HAK.out, HBK.out]
          have HPN : Hid (PairArr ((((cs.setIfInBounds (k * 2) (.int .i64 A)).setIfInBounds (k * 2 + 1) (.int .i64 B)).setIfInBounds (k * 2) (.int .i64 B)).setIfInBounds (k * 2 + 1) (.int .i64 A)) m r (k + 1)) := HPA.out.four k4 (by rw [HPK.out]; rfl) (by rw [HPK.out]; rfl)
          have HAN := Lib.hid (all_set (all_set HA3.out (k * 2) B) (k * 2 + 1) A)
          have d0 : ((cs.setIfInBounds (k * 2) (.int .i64 A)).setIfInBounds (k * 2 + 1) (.int .i64 B))[k * 2]? = some (.int .i64 A) := by rw [Array.getElem?_setIfInBounds_ne (by omega), Array.getElem?_setIfInBounds_self_of_lt (by omega)]
          have d1 : ((cs.setIfInBounds (k * 2) (.int .i64 A)).setIfInBounds (k * 2 + 1) (.int .i64 B))[k * 2 + 1]? = some (.int .i64 B) := by rw [Array.getElem?_setIfInBounds_self_of_lt (by simp; omega)]
          have HD0 := Lib.hid d0
          have HD1 := Lib.hid d1
          clear d0 d1 hA hB HAK HBK HPK hu0 hu1 hcz HPA HAC HA3
          go_wp2_with fail
          go_region
          clear c0 c1 f0 f1 HW HRZ HB
          generalize ((wr.setCell ⟨w.heap.size + 1, k * 2, none⟩ (.int .i64 A)).setCell ⟨w.heap.size + 1, k * 2 + 1, none⟩ (.int .i64 B)).drew = w3 at *
          have e0 := HW3.out.cell HD0.out
          have e1 := HW3.out.cell HD1.out
          go_wp2_with fail
          refine (exchanged_impl A B _).mono ?_
          rintro e w4 ⟨rfl, b4⟩
          have HW4 := Lib.hid (HW3.out.below b4)
          have HR4 : Hid (∃ zs : Array Value, zs.size = 8 ∧ Whole w4 w.heap.size zs 58) := by obtain ⟨ys, h1, h2⟩ := HR3.out; exact ⟨ys, h1, h2.below b4⟩
          have HB4 := Lib.hid (HB3.out.trans (b4.mono HB3.out.size))
          have g0 := HW4.out.cell HD0.out
          have g1 := HW4.out.cell HD1.out
          have i0 := HW4.out.free (k * 2)
          have i1 := HW4.out.free (k * 2 + 1)
          have HW5 := Lib.hid (HW4.out.two (k * 2) (k * 2 + 1) (.int .i64 B) (.int .i64 A))
          have HR5 : Hid (∃ zs : Array Value, zs.size = 8 ∧ Whole ((w4.setCell ⟨w.heap.size + 1, k * 2, none⟩ (.int .i64 B)).setCell ⟨w.heap.size + 1, k * 2 + 1, none⟩ (.int .i64 A)) w.heap.size zs 58) := by obtain ⟨ys, h1, h2⟩ := HR4.out; exact ⟨ys, h1, (h2.other ⟨w.heap.size + 1, k * 2, none⟩ _ (by show w.heap.size + 1 ≠ _; omega)).other ⟨w.heap.size + 1, k * 2 + 1, none⟩ _ (by show w.heap.size + 1 ≠ _; omega)⟩
          have HB5 : Hid (Below w.heap.size w ((w4.setCell ⟨w.heap.size + 1, k * 2, none⟩ (.int .i64 B)).setCell ⟨w.heap.size + 1, k * 2 + 1, none⟩ (.int .i64 A))) := (HB4.out.setCell (p := ⟨w.heap.size + 1, k * 2, none⟩) (Nat.le_succ _) _).setCell (p := ⟨w.heap.size + 1, k * 2 + 1, none⟩) (Nat.le_succ _) _
          clear e0 e1 b4 HW3 HR3 HB3 HW4 HR4 HB4
          go_wp2
          go_roundw
          case rel => exact ⟨k + 1, _, by omega, by omega, by go_num, HPN, HAN, HW5, HR5, HB5⟩
          case measure => simp [RowKit.intOf]; omega
        · have gs : ((k : Int) % 2 == 0) = false := beq_eq_false_iff_ne.2 (by omega)
          have HPK : Hid (pairK m r k = mkP A B) := by show _ = _; unfold pairK; rw [if_neg (fun q => q.elim (fun s => absurd s.1 (by omega)) (fun s => hsw s.2)), HAK.out, HBK.out]
          have HPN : Hid (PairArr ((cs.setIfInBounds (k * 2) (.int .i64 A)).setIfInBounds (k * 2 + 1) (.int .i64 B)) m r (k + 1)) := HPA.out.two k4 (by rw [HPK.out]; rfl) (by rw [HPK.out]; rfl)
          clear hA hB HAK HBK HPK hu0 hu1 hcz HPA HAC
          go_wp2_with fail
          go_region
          clear c0 c1 f0 f1 HW HRZ HB
          go_wp2
          go_roundw
          case rel => exact ⟨k + 1, _, by omega, by omega, by go_num, HPN, HA3, HW3, HR3, HB3⟩
          case measure => simp [RowKit.intOf]; omega
      obtain rfl : k = h := by omega
      obtain ⟨ys, hy1, hy2⟩ := HRZ.out
      have HSZ : Hid ((Try.prog.info? 58).map (·.size) = some cs.size) := by show _ = _; rw [HPA.out.1]; exact HSZQ.out
      have HSE : Hid (ys.size = cs.size) := hy1.trans HPA.out.1.symm
      have HY2 := Lib.hid hy2
      have HLD : Hid ((loadVar 58 ⟨w.heap.size, 0, none⟩).run Try.prog (wr.setRow w.heap.size cs) = .ok (.agg cs) (wr.setRow w.heap.size cs)) := run_loadVar_row _ _ 58 58 cs (0, 0) _ HY2.out.setRow Try.underlying58 rfl HSZ.out
      have HBx : Hid (Below w.heap.size w (wr.setRow w.heap.size cs)) := below_setRow HB.out (Nat.le_refl _)
      clear hy1 hy2 HRZ
      go_wp2_with (first | (refine wpList_load_row rfl 58 (.tmp 6) rfl (w.heap.size + 1) rfl 58 cs (0, 0) _ HW.out Try.underlying58 rfl HSZ.out ?_) | (refine wpList_store_row rfl 58 (.tmp 4) (.tmp 51) rfl w.heap.size cs rfl rfl 58 ys HY2.out HSZ.out HSE.out HAC.out ?_))
      refine bodyPost_ret (v := .agg cs) (results_cell1 (Try.results46) rfl HLD.out) rfl ⟨cs, rfl, HPA.out, HAC.out, HBx.out⟩
end Go.Proofs.Ytgemdjcadlejfaa
set_option linter.unusedVariables false
namespace Go.Proofs.Ytgemdjcadlejfaa
open Go.RowKit

set_option maxRecDepth 100000 in
set_option maxHeartbeats 2000000 in
theorem clonePairs_impl (ad : Addr) (c : Nat) (T : PairL) (w : World) (h : RdA tPairS w [.slice (some ad) (List.length (α := tPair.D) T) c] T) (hn6 : List.length (α := tPair.D) T ≤ 1048576) :
    Calls Try.prog 47 #[.slice (some ad) (List.length (α := tPair.D) T) c] w (MadeT tPairS T w) := by
  obtain ⟨i0, hi, hz0, hz1, hz2⟩ := info_parts Try.infoPair
  have HPR : Hid (PairRow w (.slice (some ad) (List.length (α := tPair.D) T) c) (List.length (α := tPair.D) T) (atPair T)) := rd_PairS.1 h
  obtain ⟨m, hm⟩ : ∃ m, List.length (α := tPair.D) T = m := ⟨_, rfl⟩
  have HM := Lib.hid hm
  rw [hm] at HPR hn6 ⊢
  clear hm h
  have hm63 : m ≤ 9223372036854775807 := by omega
  have hq1 : (binOp .eql 30 (.slice (some ad) m c) (.slice none 0 0)).run Try.prog w = .ok (.bool false) w := Lib.run_eql_slice_nil w 30 38 (some ad) m c 0 0 Try.underlying30
  go_enter Try.func47, Try.ntmps47
  go_wp2_with (at_builtin; refine wpList_cloneR rfl (.tmp 5) (.tmp 6) 30 rfl 38 Try.underlying30 hi hz0 hz1 hz2 rfl (by decide) (by simp [go_sem]) rfl HPR.out (fun i hi => rfl) (fun i hi u hu => by simp [PairD.cells] at hu; rcases hu with rfl | rfl <;> rfl) (by omega) (by omega) ?_; intro vv w3 o3 b3; have OR3 := Lib.hid o3; have B3 := Lib.hid b3; clear o3 b3)
  go_ret
  have HOW : OwN tPairS w3 w.heap.size w3.heap.size [vv] T := by
    have h9 := OR3.out
    rw [← HM.out, pairs_flat] at h9
    exact own_pairs h9 (by rw [HM.out]; omega)
  exact ⟨vv, rfl, HOW, B3.out⟩
end Go.Proofs.Ytgemdjcadlejfaa
set_option linter.unusedVariables false
namespace Go.Proofs.Ytgemdjcadlejfaa
open Go.RowKit

theorem circ_take {n m r e : Nat} (hn : n + e = m) (he : e ≤ 1) (h2 : 2 ≤ n) : ∀ k, circK n m r k = ((List.range k).drop e).map (pairK m r)
  | 0 => by simp [circK]
  | k + 1 => by
    have h := circ_take (r := r) hn he h2 k
    have hM : (0 : Int) < (m : Int) - 1 := by omega
    have hb := (turn_in (x := (r : Int) - k) hM).2
    show (if (n : Int) ≤ aK m r k ∨ (n : Int) ≤ bK m r k then circK n m r k else circK n m r k ++ [pairK m r k]) = _
    have hB : ¬ (n : Int) ≤ bK m r k := by unfold bK; omega
    rw [List.range_succ]
    by_cases hk : k < e
    · have k0 : k = 0 := by omega
      have e1 : e = 1 := by omega
      have hA : (n : Int) ≤ aK m r k := by subst k0; show (n : Int) ≤ (m : Int) - 1; omega
      rw [if_pos (.inl hA)]
      subst k0
      subst e1
      rfl
    · have hA : ¬ (n : Int) ≤ aK m r k := by
        by_cases k0 : k = 0
        · subst k0; show ¬ (n : Int) ≤ (m : Int) - 1; omega
        · unfold aK
          rw [if_neg k0]
          have := (turn_in (x := (r : Int) + k) hM).2
          omega
      rw [if_neg (fun q => q.elim hA hB), h, List.drop_append_of_le_length (by rw [List.length_range]; omega), List.map_append]
      rfl
theorem circ_len {n m r e : Nat} (hn : n + e = m) (he : e ≤ 1) (h2 : 2 ≤ n) (k : Nat) : List.length (α := tPair.D) (circK n m r k) = k - e := by rw [circ_take hn he h2, List.length_map, List.length_drop, List.length_range]
theorem circ_at {n m r e : Nat} (hn : n + e = m) (he : e ≤ 1) (h2 : 2 ≤ n) (k i : Nat) (hi : i < k - e) : (circK n m r k)[i]? = some (pairK m r (e + i)) := by
  rw [circ_take hn he h2, List.getElem?_map, List.getElem?_drop, List.getElem?_range (by omega)]
  rfl
theorem circN_at (n m : Nat) : ∀ (k i : Nat), i < k → (circN n m k)[i]? = some (circK n m i (m / 2))
  | k + 1, i, hi => by
    show (circN n m k ++ [circK n m k (m / 2)])[i]? = _
    by_cases h : i < k
    · rw [List.getElem?_append_left (by rw [circN_len]; exact h)]
      exact circN_at n m k i h
    · obtain rfl : i = k := by omega
      rw [List.getElem?_append_right (by rw [circN_len]; exact Nat.le_refl _), circN_len, Nat.sub_self]
      rfl
def fillN (n m q r : Nat) : List PairL := (List.range q).map fun i => if i < r then circK n m i (m / 2) else []
theorem fillN_len (n m q r : Nat) : List.length (α := PairL) (fillN n m q r) = q := by unfold fillN; rw [List.length_map, List.length_range]
theorem fillN_at (n m q r i : Nat) (hi : i < q) : (fillN n m q r)[i]? = some (if i < r then circK n m i (m / 2) else []) := by
  unfold fillN; rw [List.getElem?_map, List.getElem?_range hi]; rfl
theorem fillN_out (n m : Nat) {q r i : Nat} (hi : q ≤ i) : (fillN n m q r)[i]? = none := List.getElem?_eq_none (by rw [fillN_len]; exact hi)
theorem fillN_zero (n m q : Nat) : fillN n m q 0 = List.replicate q [] := by
  apply List.ext_getElem?
  intro i
  by_cases hi : i < q
  · rw [fillN_at n m q 0 i hi, List.getElem?_replicate, if_pos hi, if_neg (Nat.not_lt_zero _)]
  · rw [List.getElem?_eq_none (by rw [fillN_len]; omega), List.getElem?_eq_none (by rw [List.length_replicate]; omega)]
theorem fillN_all (n m q : Nat) : fillN n m q q = circN n m q := by
  apply List.ext_getElem?
  intro i
  by_cases hi : i < q
  · rw [fillN_at n m q q i hi, if_pos hi, circN_at n m q i hi]
  · rw [List.getElem?_eq_none (by rw [fillN_len]; omega), List.getElem?_eq_none (by rw [circN_len]; omega)]
theorem circ_step {w0 w3 w4 : World} {B B0 n m q r : Nat} {xs : List Value} {rv : Value} (hA : RowsAp 30 tPairS w0 B (.slice (some ⟨B0, 0, none⟩) q q) (fillN n m q r) xs) (hr : r < q)
    (hb : Below w0.heap.size w0 w3) (ho : OwN tPairS w3 w0.heap.size w3.heap.size [rv] (circK n m r (m / 2))) (hB0 : B0 < w0.heap.size) (hB : B ≤ w0.heap.size)
    (e4 : w3.setCell ⟨B0, r, none⟩ rv = w4) : RowsAp 30 tPairS w4 B (.slice (some ⟨B0, 0, none⟩) q q) (fillN n m q (r + 1)) (xs.set r rv) := by
  have hl : xs.length = q := by have := hA.1.1; rw [Nat.mul_one, show List.length (α := tPairS.D) (fillN n m q r) = q from fillN_len n m q r] at this; exact this
  obtain ⟨bs, o1, n1, _, _⟩ := ho
  have t1 := tPairS.ow_lt o1
  subst e4
  have hA3 := hA.1
  rw [show List.length (α := tPairS.D) (fillN n m q r) = q from fillN_len n m q r] at hA3
  refine RowsAp.upd hA ((fillN_len n m q (r + 1)).trans (fillN_len n m q r).symm) (fun k hk hv => ?_) (by rw [show (w3.setCell ⟨B0, r, none⟩ rv).heap.size = w3.heap.size by simp [World.setCell]]; exact hb.size) ?_ (fun i => if i = r then some bs else none) (fun i hi => ?_) (fun i cs hi => ?_) (fun i j cs ds hi hj hij => ?_)
  · exact (Below.heap_setCell _ _ _ _ (fun e => hv (by rw [e]; rfl))).trans (hb.block k hk)
  · rw [show List.length (α := tPairS.D) (fillN n m q r) = q from fillN_len n m q r]
    exact ((owns_below hA3 hb (Nat.le_refl _)).stored r rv).1
  · have h1 : i ≠ r := fun e => by rw [if_pos e] at hi; cases hi
    refine ⟨by rw [List.getD_eq_getElem?_getD, List.getElem?_set_ne (Ne.symm h1), ← List.getD_eq_getElem?_getD], ?_⟩
    by_cases hq : i < q
    · refine (fillN_at n m q _ i hq).trans (Eq.trans ?_ (fillN_at n m q _ i hq).symm)
      by_cases h : i < r
      · rw [if_pos h, if_pos (by omega)]
      · rw [if_neg h, if_neg (by omega)]
    · exact (fillN_out n m (by omega)).trans (fillN_out n m (by omega)).symm
  · by_cases h1 : i = r
    · rw [if_pos h1] at hi
      cases hi
      subst h1
      refine ⟨n1, fun k hk => (t1 k hk).1, fun x hx => ?_⟩
      obtain rfl : circK n m i (m / 2) = x := Option.some.inj (((fillN_at n m q (i + 1) i hr).trans (congrArg some (if_pos (Nat.lt_succ_self i)))).symm.trans hx)
      rw [List.getD_eq_getElem?_getD, List.getElem?_set_self (by omega)]
      refine tPairS.ow_mono (tPairS.ow_frame o1 (fun k hk => Below.heap_setCell _ _ _ _ (fun e => ?_)) (by simp [World.setCell])) hB
      have h7 := (t1 k hk).1
      have h8 : k = B0 := e
      omega
    · rw [if_neg h1] at hi; cases hi
  · exfalso
    have hi1 : i = r := by by_cases h : i = r; exact h; rw [if_neg h] at hi; cases hi
    have hj1 : j = r := by by_cases h : j = r; exact h; rw [if_neg h] at hj; cases hj
    exact hij (hi1.trans hj1.symm)
theorem slice_four (B e h : Nat) (he : e ≤ h) (hh : h ≤ 4) (he1 : e ≤ 1) (w : World) :
    (Instr.sliceAt 58 (.pointer (some ⟨B, 0, none⟩)) (some (.int .i64 (e : Int))) (some (.int .i64 (h : Int))) none).run Try.prog w = .ok (.slice (some ⟨B, e * 2, none⟩) (h - e) (4 - e)) w := by
  have hl : Try.prog.arrayLen 58 = 4 := by kernel_rfl
  have hu : Try.prog.underlying 58 = some (.array (Try.prog.arrayLen 58) (Try.prog.elem 58)) := by kernel_rfl
  have hel : Try.prog.elem 58 = 38 := by kernel_rfl
  have hs : (sizeOf 38).run Try.prog w = .ok 2 w := by simp
  rw [run_sliceAt_array_lh w 58 ⟨B, 0, none⟩ hu .i64 .i64 e h (by omega) (by omega) (by rw [hl]; omega), hel, hs]
  have h4 : ¬ 4 = e := by omega
  simp [Result.andThen, slicedAt, hl, Addr.add, h4]
  omega
end Go.Proofs.Ytgemdjcadlejfaa
set_option linter.unusedVariables false
namespace Go.Proofs.Ytgemdjcadlejfaa
open Go.RowKit

set_option maxRecDepth 100000 in
set_option maxHeartbeats 4000000 in
theorem circleRounds_impl (N : Int) (R : Bool) (hR : R = true ↔ (2 ≤ N ∧ N ≤ 8)) (w : World) :
    Calls Try.prog 14 #[.int .i64 N] w (MadeT tPairSS (circR R N) w) := by
  obtain ⟨s0, si, sz0, sz1, sz2⟩ := info_parts Try.infoPairSS
  have HN0 : Hid (OwN tPairSS w w.heap.size w.heap.size [.slice none 0 0] ([] : List PairL)) := ⟨[], ⟨.slice none 0 0, [], fun _ => [], rfl, World.ownsRow_nil _ _ _ _, fun i x hx => (by cases hx), rfl⟩, List.nodup_nil, fun q hq => (by cases hq), Nat.le_refl _⟩
  by_cases h2 : 2 ≤ N
  case neg =>
    obtain rfl := boolF hR (fun h => h2 h.1)
    have g1 : decide (N < 2) = true := decide_eq_true (by omega)
    clear hR
    go_enter Try.func14, Try.ntmps14
    go_wp2
    go_ret
    exact ⟨_, rfl, HN0.out, Below.refl _ _⟩
  have g1 : decide (N < 2) = false := decide_eq_false (by omega)
  by_cases h8 : N ≤ 8
  case neg =>
    obtain rfl := boolF hR (fun h => h8 h.2)
    have g2 : decide (8 < N) = true := decide_eq_true (by omega)
    clear hR
    go_enter Try.func14, Try.ntmps14
    go_wp2
    go_ret
    exact ⟨_, rfl, HN0.out, Below.refl _ _⟩
  obtain rfl := boolT hR ⟨h2, h8⟩
  obtain ⟨n, rfl⟩ : ∃ n : Nat, N = n := ⟨N.toNat, by omega⟩
  have g2 : decide (8 < (n : Int)) = false := decide_eq_false (by omega)
  have g1' : decide (n < 2) = false := decide_eq_false (by omega)
  have g2' : decide (8 < n) = false := decide_eq_false (by omega)
  obtain ⟨e, he⟩ : ∃ e, n % 2 = e := ⟨_, rfl⟩
  obtain ⟨m, hm⟩ : ∃ m, n + e = m := ⟨_, rfl⟩
  obtain ⟨h, hh⟩ : ∃ h, m / 2 = h := ⟨_, rfl⟩
  obtain ⟨q, hq⟩ : ∃ q, m - 1 = q := ⟨_, rfl⟩
  have he1 : e ≤ 1 := by omega
  have hn2 : 2 ≤ n := by omega
  have hm8 : m ≤ 8 := by omega
  have hm2 : 2 ≤ m := by omega
  have hh2 : 2 * h = m := by omega
  have HE : Hid (circR true (n : Int) = circN n m q) := by show circL (n : Int).toNat = _; rw [Int.toNat_natCast]; unfold circL; rw [he, hm, hq]
  rw [HE.out]
  have hE : (n : Int) % 2 = (e : Int) := by omega
  have hE2 : (n : Int) + (e : Int) = (m : Int) := by omega
  have hD : (m : Int) / 2 = (h : Int) := by omega
  have HQ : Hid ((m : Int) - 1 = (q : Int)) := by show _ = _; omega
  have CP := Lib.hid (fun (r : Nat) (hr : r < m - 1) (wa : World) => circlePairs_impl m h r hh2 hm8 (by omega) hr wa)
  clear HE hR HN0
  go_enter Try.func14, Try.ntmps14
  go_wp2_with (at_make; refine wpList_make_full _ rfl _ _ 24 rfl w.heap.size 30 s0 (.slice none 0 0) 1 Try.underlying24 si sz0 sz1 .i64 .i64 ((m : Int) - 1) ((m : Int) - 1) q rfl rfl HQ.out HQ.out (by rw [sz2]; omega) (by unfold maxLen; omega) (Nat.le_refl _) ?_; intro w1 hown hg1)
  have HB1 : Hid (Below w.heap.size w w1) := (Below.refl _ _).grown hg1 (Nat.le_refl _) (fun k hk => by cases hk)
  have HA1 : Hid (RowsAp 30 tPairS w1 w.heap.size (.slice (some ⟨w.heap.size, 0, none⟩) q q) (fillN n m q 0) (List.replicate q (.slice none 0 0))) := by
    rw [fillN_zero]
    refine RowsAp.zero ?_ (own_nilR _ _)
    have h9 := hown
    rw [show (Value.slice none 0 0).cells = #[.slice none 0 0] from rfl, Nat.mul_one, toList_madeCells_one] at h9
    exact h9
  clear hown hg1
  go_loopw [22] (fun iv wr => ∃ (r : Nat) (xs : List Value), r ≤ q ∧ iv = .int .i64 r ∧ Hid (RowsAp 30 tPairS wr w.heap.size (.slice (some ⟨w.heap.size, 0, none⟩) q q) (fillN n m q r) xs) ∧ Hid (Below w.heap.size w wr)) (fun iv _ => q - (RowKit.intOf iv).toNat)
  case atStart => exact ⟨0, _, Nat.zero_le _, rfl, HA1, HB1⟩
  case round =>
    clear HA1 HB1
    obtain ⟨r, xs, hr9, rfl, HA, HB⟩ := hrel
    by_cases hlt : r < q
    · have hj1 : (r : Int) < (m : Int) - 1 := by omega
      have hr1 : r < m - 1 := by omega
      generalize wr = w0 at *
      have hB0 : w.heap.size < w0.heap.size := (HA.out.1.lt _ rfl).2
      have HO0 : Hid (w0.ownsRow w.heap.size 30 1 (.slice (some ⟨w.heap.size, 0, none⟩) q q) q xs) := by have h9 := HA.out.1; rw [show List.length (α := tPairS.D) (fillN n m q r) = q from fillN_len n m q r] at h9; exact h9
      go_wp2_with fail
      refine (CP.out r hr1 _).mono ?_
      rintro ee w2 ⟨cs, rfl, hpa, hal, b2⟩
      have HPA := Lib.hid hpa
      have HAL := Lib.hid hal
      have HB2 := Lib.hid b2
      clear hpa hal b2
      obtain ⟨U, hU⟩ : ∃ U, w2.alloc (.cells #[.int .i64 0, .int .i64 0, .int .i64 0, .int .i64 0, .int .i64 0, .int .i64 0, .int .i64 0, .int .i64 0] 58) = U := ⟨_, rfl⟩
      have hz : ∃ zs : Array Value, zs.size = 8 ∧ Whole U w2.heap.size zs 58 := by rw [← hU]; exact ⟨#[.int .i64 0, .int .i64 0, .int .i64 0, .int .i64 0, .int .i64 0, .int .i64 0, .int .i64 0, .int .i64 0], rfl, Whole.made _ #[.int .i64 0, .int .i64 0, .int .i64 0, .int .i64 0, .int .i64 0, .int .i64 0, .int .i64 0, .int .i64 0] 58⟩
      obtain ⟨zs, hz1, hz2⟩ := hz
      have HZ2 := Lib.hid hz2
      have HSE : Hid (zs.size = cs.size) := hz1.trans HPA.out.1.symm
      have HSZ : Hid ((Try.prog.info? 58).map (·.size) = some cs.size) := by show _ = _; rw [HPA.out.1]; kernel_rfl
      obtain ⟨V, hV⟩ : ∃ V, U.setRow w2.heap.size cs = V := ⟨_, rfl⟩
      have HW : Hid (Whole V w2.heap.size cs 58) := by rw [← hV]; exact hz2.setRow
      have HBV : Hid (Below w0.heap.size w0 V) := by rw [← hV, ← hU]; exact below_setRow (HB2.out.alloc HB2.out.size _) HB2.out.size
      clear hz1 hz2
      have hsl : ∀ wa, (Instr.sliceAt 58 (.pointer (some ⟨w2.heap.size, 0, none⟩)) (some (.int .i64 (e : Int))) (some (.int .i64 (h : Int))) none).run Try.prog wa = .ok (.slice (some ⟨w2.heap.size, e * 2, none⟩) (h - e) (4 - e)) wa := fun wa => slice_four w2.heap.size e h (by omega) (by omega) he1 wa
      have hTl : List.length (α := tPair.D) (circK n m r h) = h - e := circ_len hm he1 hn2 h
      have HRD : Hid (RdA tPairS V [.slice (some ⟨w2.heap.size, e * 2, none⟩) (h - e) (4 - e)] (circK n m r h)) := by
        refine rd_PairS.2 ?_
        rw [hTl]
        refine .inr ⟨w2.heap.size, e * 2, 4 - e, rfl, by omega, by omega, fun i hi => ⟨HW.out.lt, fun j u hu => ?_⟩, by omega⟩
        have hc := circ_at (r := r) hm he1 hn2 h i hi
        have hq := HPA.out.2 (e + i) (by omega)
        have e3 : atPair (circK n m r h) i = ⟨Go.Proofs.Ytgemdjcadlejfaa.hm (pairK m r (e + i)), aw (pairK m r (e + i))⟩ := by unfold atPair; rw [hc]; rfl
        replace hu : (atPair (circK n m r h) i).cells[j]? = some u := hu
        rw [e3] at hu
        have e4 : e * 2 + i * 2 = (e + i) * 2 := by omega
        rw [e4]
        match j, hu with
        | 0, hu => cases hu; exact HW.out.cell hq.1
        | 1, hu => cases hu; exact HW.out.cell hq.2
        | k + 2, hu => cases hu
      have CL : Hid (Calls Try.prog 47 #[.slice (some ⟨w2.heap.size, e * 2, none⟩) (h - e) (4 - e)] V (MadeT tPairS (circK n m r h) V)) := by
        have h9 := clonePairs_impl ⟨w2.heap.size, e * 2, none⟩ (4 - e) (circK n m r h) V (by rw [hTl]; exact HRD.out) (by rw [hTl]; omega)
        rw [hTl] at h9
        exact h9
      clear hTl HRD
      go_wp2_with (refine wpList_store_row rfl 58 (.tmp 6) (.tmp 27) rfl w2.heap.size cs rfl rfl 58 zs HZ2.out HSZ.out HSE.out HAL.out ?_; rw [hV])
      refine CL.out.mono ?_
      rintro ee w3 ⟨rv, rfl, hown3, b3⟩
      have HO3 := Lib.hid hown3
      have HB3 := Lib.hid (HBV.out.trans (b3.mono HBV.out.size))
      have HOW : Hid (OwN tPairS w3 w0.heap.size w3.heap.size [rv] (circK n m r (m / 2))) := by rw [hh]; exact HO3.out.mono HBV.out.size (Nat.le_refl _) (Nat.le_refl _)
      have HO1 := Lib.hid (owns_below HO0.out HB3.out (Nat.le_refl _))
      obtain ⟨u1, hu1⟩ := owns_some HO1.out r hlt
      have HU1 := Lib.hid hu1
      have hc1 := owns_cell HO1.out r hlt HU1
      have hf1 := HO1.out.frozenAt r
      obtain ⟨ra, rn, rc, hrv⟩ : ∃ ra rn rc, rv = .slice ra rn rc := by
        obtain ⟨bs, ⟨v', xs', f', he, h1, _⟩, _⟩ := hown3
        obtain ⟨ra, rc, hf⟩ := owns_form h1
        cases he
        exact ⟨ra, _, rc, hf⟩
      have HAN : Hid (RowsAp 30 tPairS (w3.setCell ⟨w.heap.size, r, none⟩ rv) w.heap.size (.slice (some ⟨w.heap.size, 0, none⟩) q q) (fillN n m q (r + 1)) (xs.set r rv)) := circ_step HA.out hlt HB3.out HOW.out hB0 (Nat.le_of_lt hB0) rfl
      have HBN : Hid (Below w.heap.size w (w3.setCell ⟨w.heap.size, r, none⟩ rv)) := (HB.out.trans (HB3.out.mono HB.out.size)).setCell (Nat.le_refl _) _
      subst hrv
      clear hown3 b3 HA HOW HO3 HB3 hV hU hsl CL hu1
      go_wp2
      go_roundw
      case rel => exact ⟨r + 1, _, by omega, by go_num, HAN, HBN⟩
      case measure => simp [RowKit.intOf]; omega
    obtain rfl : r = q := by omega
    have HF : Hid (OwN tPairSS wr w.heap.size wr.heap.size [(.slice (some ⟨w.heap.size, 0, none⟩) r r)] (circN n m r)) := by
      have h9 := HA.out.own rfl
      rw [fillN_all] at h9
      exact h9
    clear HA
    have hj1 : ¬ (r : Int) < (m : Int) - 1 := by omega
    go_wp2
    go_ret
    exact ⟨_, rfl, HF.out, HB.out⟩
end Go.Proofs.Ytgemdjcadlejfaa
set_option linter.unusedVariables false
namespace Go.Proofs.Ytgemdjcadlejfaa
open Go.RowKit

theorem mks_SS (d : List PairL) : tPairSS.mks d = (d.map fun r => 2 * List.length (α := tPair.D) r).sum := by
  show (d.map tPairS.mks).sum = _
  congr 1
  exact List.map_congr_left fun r _ => mks_PairS r
theorem wt_SS (d : List PairL) : tPairSS.wt d = List.length (α := PairL) d + (d.map fun r => List.length (α := tPair.D) r).sum := by
  show List.length (α := PairL) d + (d.map tPairS.wt).sum = _
  congr 2
  exact List.map_congr_left fun r _ => wt_PairS r
theorem sum_circ (n m : Nat) : ∀ k, ((circN n m k).map fun r => List.length (α := tPair.D) r).sum ≤ k * m
  | 0 => Nat.zero_le _
  | k + 1 => by
    have h := sum_circ n m k
    have h2 := circK_len n m k (m / 2)
    show ((circN n m k ++ [circK n m k (m / 2)]).map fun r => List.length (α := tPair.D) r).sum ≤ _
    rw [List.map_append, List.sum_append, Nat.succ_mul]
    show _ + (List.length (α := tPair.D) (circK n m k (m / 2)) + 0) ≤ _
    omega
theorem sum_two (d : List PairL) : (d.map fun r => 2 * List.length (α := tPair.D) r).sum = 2 * (d.map fun r => List.length (α := tPair.D) r).sum := by
  induction d with
  | nil => rfl
  | cons r d ih => rw [List.map_cons, List.sum_cons, List.map_cons, List.sum_cons, ih]; omega
theorem sum_circL {n : Nat} (h : n ≤ 8) : ((circL n).map fun r => List.length (α := tPair.D) r).sum ≤ 81 := by
  refine Nat.le_trans (sum_circ n (n + n % 2) (n + n % 2 - 1)) ?_
  have h1 : n + n % 2 - 1 ≤ 9 := by omega
  have h2 : n + n % 2 ≤ 9 := by omega
  exact Nat.mul_le_mul h1 h2
theorem len_circL {n : Nat} (h : n ≤ 8) : List.length (α := PairL) (circL n) ≤ 9 := by unfold circL; rw [circN_len]; omega
theorem marks_circ {R : Bool} {N : Int} (hR : R = true ↔ (2 ≤ N ∧ N ≤ 8)) : tPairSS.mks (circR R N) ≤ 100000000000 := by
  rw [mks_SS, sum_two]
  cases R with
  | false => exact Nat.zero_le _
  | true =>
    have h := sum_circL (n := N.toNat) (by have := hR.1 rfl; omega)
    show 2 * ((circL N.toNat).map fun r => List.length (α := tPair.D) r).sum ≤ _
    omega
theorem wt_circ {n : Nat} (h : n ≤ 8) : tPairSS.wt (circL n) ≤ 100 := by
  rw [wt_SS]
  have h1 := sum_circL h
  have h2 := len_circL h
  omega
theorem sum_turn (d : List PairL) : ((d.map turnR).map fun r => List.length (α := tPair.D) r).sum = (d.map fun r => List.length (α := tPair.D) r).sum := by
  induction d with
  | nil => rfl
  | cons r d ih =>
    rw [List.map_cons, List.map_cons, List.sum_cons, List.map_cons, List.sum_cons, ih]
    congr 1
    exact List.length_map ..
theorem wt_mir (d : List PairL) : tPairSS.wt (mirL d) = 2 * tPairSS.wt d := by
  rw [wt_SS, wt_SS]
  unfold mirL
  rw [List.map_append, List.sum_append, sum_turn, List.length_append, List.length_map]
  show List.length (α := PairL) d + List.length (α := PairL) d + _ = _
  omega
theorem marks_mir (d : List PairL) (hw : tPairSS.wt d ≤ 1048576) : tPairSS.mks (mirL d) ≤ 100000000000 := by
  have h1 := wt_mir d
  rw [wt_SS] at h1
  rw [mks_SS, sum_two]
  omega
end Go.Proofs.Ytgemdjcadlejfaa
set_option linter.unusedVariables false
namespace Go.Proofs.Ytgemdjcadlejfaa
open Go.RowKit

def getPR (d : List PairL) (i : Nat) : PairL := (d[i]?).getD []
def getO (L : List GameD) (i : Nat) : GameD := (L[i]?).getD default
def homeS (L : List Int) : Nat → Int
  | 0 => 0
  | k + 1 => homeS L k + 2 * (getI L k % 2) - getI L k + getI L k / 2
def schedB (n : Nat) (d : List PairL) : Bool := decide (List.length (α := PairL) d ≤ 14) && d.all fun r => decide (∀ t ∈ teamsR r, 0 ≤ t ∧ t ≤ (n : Int) - 1) && decide (teamsR r).Nodup
def robinB (n : Nat) (d : List PairL) (T : Int) : Bool := schedB n d && (List.range n).all fun a => (List.range a).all fun b => decide (cntL a b d ≤ 1 ∧ cntL b a d ≤ 1 ∧ (cntL a b d : Int) + (cntL b a d : Int) = T)
instance (n : Int) (t : GameD) : Decidable (gameP n t) := by unfold gameP; infer_instance
def seasonB (n : Nat) (L : List GameD) : Bool := decide (L.length ≤ 60) && (List.range L.length).all fun i => decide (gameP n (getO L i)) && decide (firstI (atG (getO L) (getO L i).home (getO L i).away) L.length 0 = (i : Int))
def roundB (n : Nat) : Bool :=
  robinB n (circL n) 1 && robinB n (mirL (circL n)) 2 && !(robinB n (circL n) 2) && decide ((gamesL (circL n)).length = n * (n - 1) / 2) && decide (0 < List.length (α := PairL) (circL n)) &&
  decide (0 < List.length (α := tPair.D) (getPR (mirL (circL n)) 0)) && seasonB n (gamesL (mirL (circL n))) &&
  ((List.range n).all fun t => decide (homeS (venL (mirL (circL n)) t) (List.length (α := PairL) (mirL (circL n))) = 0)) &&
  decide (ixL (aw ((getPR (mirL (circL n)) 0).headD (mkP 0 0))) (hm ((getPR (mirL (circL n)) 0).headD (mkP 0 0))) (mirL (circL n)) 0 = (List.length (α := PairL) (circL n) : Int))
theorem round_all : ∀ i : Fin 7, roundB (i.1 + 2) = true := by decide +kernel
theorem sched_iff {n : Nat} {d : List PairL} (h : 2 ≤ n ∧ n ≤ 8) : schedB n d = true ↔ schedP (n : Int) d := by
  unfold schedB schedP onceP
  rw [Bool.and_eq_true, decide_eq_true_eq, List.all_eq_true]
  constructor
  · rintro ⟨h1, h2⟩
    refine ⟨⟨by omega, by omega⟩, h1, fun r hr => ?_⟩
    have h3 := h2 r hr
    rw [Bool.and_eq_true, decide_eq_true_eq, decide_eq_true_eq] at h3
    exact h3
  · rintro ⟨_, h1, h2⟩
    exact ⟨h1, fun r hr => by rw [Bool.and_eq_true, decide_eq_true_eq, decide_eq_true_eq]; exact h2 r hr⟩
theorem robin_iff {n : Nat} {d : List PairL} {T : Int} (h : 2 ≤ n ∧ n ≤ 8) (hT : 1 ≤ T ∧ T ≤ 2) : robinB n d T = true ↔ robinP (n : Int) d T := by
  unfold robinB robinP metP
  rw [Bool.and_eq_true, sched_iff h, List.all_eq_true]
  constructor
  · rintro ⟨h1, h2⟩
    refine ⟨h1, hT, fun a b hb ha => ?_⟩
    have h3 := h2 a (List.mem_range.2 (by omega))
    rw [List.all_eq_true] at h3
    exact of_decide_eq_true (h3 b (List.mem_range.2 hb))
  · rintro ⟨h1, _, h2⟩
    refine ⟨h1, fun a ha => ?_⟩
    rw [List.all_eq_true]
    exact fun b hb => decide_eq_true (h2 a b (List.mem_range.1 hb) (by have := List.mem_range.1 ha; omega))
theorem season_of {n : Nat} {L : List GameD} (h : seasonB n L = true) : seasonP (n : Int) L.length (getO L) := by
  unfold seasonB at h
  rw [Bool.and_eq_true, decide_eq_true_eq, List.all_eq_true] at h
  refine ⟨h.1, fun i hi => ?_⟩
  have h2 := h.2 i (List.mem_range.2 hi)
  rw [Bool.and_eq_true, decide_eq_true_eq, decide_eq_true_eq] at h2
  exact h2
structure RoundsAre (n : Nat) (D M : List PairL) : Prop where
  one : robinP (n : Int) D 1
  two : robinP (n : Int) M 2
  not : ¬ robinP (n : Int) D 2
  games : (gamesL D).length = n * (n - 1) / 2
  some : 0 < List.length (α := PairL) D
  first : 0 < List.length (α := tPair.D) (getPR M 0)
  season : seasonP (n : Int) (gamesL M).length (getO (gamesL M))
  home : ∀ t : Nat, t < n → homeS (venL M t) (List.length (α := PairL) M) = 0
  mirror : ixL (aw ((getPR M 0).headD (mkP 0 0))) (hm ((getPR M 0).headD (mkP 0 0))) M 0 = (List.length (α := PairL) D : Int)
theorem rounds_are {n : Nat} (h2 : 2 ≤ n) (h8 : n ≤ 8) : RoundsAre n (circL n) (mirL (circL n)) := by
  have h := round_all ⟨n - 2, by omega⟩
  have e : n - 2 + 2 = n := by omega
  rw [show ((⟨n - 2, by omega⟩ : Fin 7).1 + 2) = n from e] at h
  unfold roundB at h
  simp only [Bool.and_eq_true, decide_eq_true_eq, Bool.not_eq_true'] at h
  obtain ⟨⟨⟨⟨⟨⟨⟨⟨q1, q2⟩, q3⟩, q4⟩, q5⟩, q6⟩, q7⟩, q8⟩, q9⟩ := h
  refine ⟨(robin_iff ⟨h2, h8⟩ (by omega)).1 q1, (robin_iff ⟨h2, h8⟩ (by omega)).1 q2, fun hp => ?_, q4, q5, q6, season_of q7, fun t ht => ?_, q9⟩
  · have := (robin_iff ⟨h2, h8⟩ (by omega)).2 hp
    rw [q3] at this
    cases this
  · rw [List.all_eq_true] at q8
    exact of_decide_eq_true (q8 t (List.mem_range.2 ht))
end Go.Proofs.Ytgemdjcadlejfaa
set_option linter.unusedVariables false
namespace Go.Proofs.Ytgemdjcadlejfaa
open Go.RowKit

def tGame : Ty := tTwo tInt (tTwo tInt (tTwo tInt (tTwo tInt tInt)))
def tGameS : Ty := tSl 66 tGame
def ofGame (x : tGame.D) : GameD := ⟨x.1, x.2.1, x.2.2.1, x.2.2.2.1, x.2.2.2.2⟩
def atGame (d : List tGame.D) (i : Nat) : GameD := ((d[i]?).map ofGame).getD default
theorem flat_Game : FlatT tGame fun x => (ofGame x).cells := (flat_two flat_int (flat_two flat_int (flat_two flat_int (flat_two flat_int flat_int))))
theorem cells_Game {d : List tGame.D} {i : Nat} (hi : i < d.length) : cellsAt (fun x => (ofGame x).cells) d i = (atGame d i).cells := by
  refine (cellsAt_lt (List.getElem?_eq_getElem hi)).trans ?_
  unfold atGame; rw [List.getElem?_eq_getElem hi]; rfl
theorem rd_GameS {w : World} {v : Value} {d : List tGame.D} : RdA tGameS w [v] d ↔ GameRow w v d.length (atGame d) := by
  have e := fun i (hi : i < d.length) => cells_Game hi
  exact flat_Game.rdA.trans ⟨fun h => RecRow.congr h e, fun h => RecRow.congr h fun i hi => (e i hi).symm⟩
theorem rdN_GameS {w : World} {lo hi : Nat} {v : Value} {d : List tGame.D} (h : GameRow w v d.length (atGame d)) (hi2 : InW lo hi v) : RdN tGameS w lo hi [v] d :=
  flat_Game.reads (flat_Game.row (rd_GameS.2 h)) fun _ q hq => hi2 q hq
theorem wt_GameS (d : List tGame.D) : tGameS.wt d = d.length := by
  show d.length + (d.map tGame.wt).sum = d.length
  have := sum_zero (f := tGame.wt) (fun _ => rfl) d
  omega
theorem mks_GameS (d : List tGame.D) : tGameS.mks d = 5 * d.length := sum_const (f := tGame.mks) (fun _ => rfl) d
theorem mkl_GameS (d : List tGame.D) (k : Int) : List.length (α := tGame.D) (tGameS.mkd k d) = d.length := mkList_len _ _ _ _
theorem mk_GameS (d : List tGame.D) (k : Int) (i : Nat) (hi : i < d.length) : atGame (tGameS.mkd k d) i = gameMk k i := by
  have h := mkList_get (mks := tGame.mks) (mkd := tGame.mkd) (m := 5) (fun _ => rfl) d k i
  have h2 : (mkList tGame.mks tGame.mkd k d)[i]? = some (tGame.mkd (k + ((5 : Nat) : Int) * i) d[i]) := by
    rw [h, List.getElem?_eq_getElem hi]; rfl
  unfold atGame
  refine (congrArg (fun o => (Option.map ofGame o).getD default) h2).trans ?_
  rfl
theorem own_GameS {w : World} {lo hi : Nat} {v : Value} {d : List tGame.D} {xs : List Value} (h : w.ownsRow lo 66 5 v d.length xs) (hr : GameRow w v d.length (atGame d)) (h1 : ∀ q, v.ownBlock = some q → q < hi) (hh : hi ≤ w.heap.size) : OwN tGameS w lo hi [v] d :=
  flat_Game.made h (rd_GameS.2 hr) h1 hh
theorem y_eq_GameS (v v' : Value) (d : List tGame.D) (w : World) (h : RdA tGameS w [v] d) (h' : RdA tGameS w [v'] d) : Calls Try.prog 40 #[v, v'] w fun e w' => e = .returned (.bool true) ∧ Below w.heap.size w w' :=
  x_eq_GameS v d.length (atGame d) v' w (rd_GameS.1 h) (rd_GameS.1 h')
theorem y_mk_GameS (v : Value) (d : List tGame.D) (k : Int) (lo hi : Nat) (w : World) (h : OwN tGameS w lo hi [v] d) (h0 : 0 < k) (hk : k + tGameS.mks d ≤ 1000000000000) : Calls Try.prog 41 #[v, .int .i64 k] w (MarkT tGameS [v] d k lo hi w) := by
  obtain ⟨⟨xs, ho, _⟩, hin⟩ := flat_Game.owned h
  have hm := mks_GameS d
  have hm2 : k + 5 * (d.length : Int) ≤ 1000000000000 := by omega
  refine (x_mk_GameS v d.length k lo hi lo xs w ho hin h0 hm2).mono fun e w' ⟨he, hr, ht⟩ => ⟨by rw [he, hm]; congr 2 <;> omega, ?_, ht⟩
  refine rdN_GameS ?_ hin
  have h1 : RecRow 5 w' v d.length (fun i => (atGame (tGameS.mkd k d) i).cells) := RecRow.congr hr (fun i hi => by rw [mk_GameS d k i hi])
  rw [← mkl_GameS d k] at h1
  exact h1
theorem y_hd_GameS (v : Value) (d : List tGame.D) (k : Int) (w : World) (h : RdA tGameS w [v] (tGameS.mkd k d)) (h0 : 0 < k) (hk : k + tGameS.mks d ≤ 1000000000000) : Calls Try.prog 42 #[v, .int .i64 k] w (HeldT tGameS d k w) := by
  have hm := mks_GameS d
  have hm2 : k + 5 * (d.length : Int) ≤ 1000000000000 := by omega
  have hr : GameRow w v (List.length (α := tGame.D) (tGameS.mkd k d)) (atGame (tGameS.mkd k d)) := rd_GameS.1 h
  rw [mkl_GameS d k] at hr
  exact (x_hd_GameS v d.length k w (RecRow.congr hr (fun i hi => by rw [mk_GameS d k i hi])) h0 hm2).mono fun e w' ⟨he, hb⟩ => ⟨by rw [he, hm]; congr 2 <;> omega, hb⟩
theorem yb_mk_GameS (v : Value) (d : List tGame.D) (k : Int) (lo : Nat) (bs : List Nat) (w : World) (h : tGameS.Ow w lo [v] d bs) (hnd : bs.Nodup) (h0 : 0 < k) (hk : k + tGameS.mks d ≤ 1000000000000) : Calls Try.prog 41 #[v, .int .i64 k] w (MarkC tGameS [v] (tGameS.mkd k d) (tGameS.mks d) k bs w) :=
  flat_mark flat_Game h fun lo hi ho => y_mk_GameS v d k lo hi w ho h0 hk
end Go.Proofs.Ytgemdjcadlejfaa
set_option linter.unusedVariables false
namespace Go.Proofs.Ytgemdjcadlejfaa
open Go.RowKit

def tIntS : Ty := tSl 3 tInt
theorem opens_IntS : Opens Try.prog 32 tIntS := opens_sl Try.underlying32 (by kernel_rfl) (opens_int Try.underlying3 (by kernel_rfl))
theorem cells_int {d : List Int} {i : Nat} (hi : i < d.length) : cellsAt (fun z : Int => [Value.int .i64 z]) d i = [.int .i64 (getI d i)] := by
  refine (cellsAt_lt (List.getElem?_eq_getElem hi)).trans ?_
  unfold getI; simp [hi]
theorem rd_IntS {w : World} {v : Value} {d : List Int} : RdA tIntS w [v] d ↔ IntRow w v d.length (getI d) := by
  have e := fun i (hi : i < d.length) => cells_int hi
  exact flat_int.rdA.trans ⟨fun h => RecRow.ints (RecRow.congr h e), fun h => RecRow.congr h.rec fun i hi => (e i hi).symm⟩
theorem rdN_IntS {w : World} {lo hi : Nat} {v : Value} {d : List Int} (h : IntRow w v d.length (getI d)) (hi2 : InW lo hi v) : RdN tIntS w lo hi [v] d :=
  flat_int.reads (flat_int.row (rd_IntS.2 h)) fun _ q hq => hi2 q hq
theorem own_ints {w : World} {lo hi : Nat} {v : Value} {d : List Int} (h : w.ownsRow lo 3 1 v d.length (d.map (Value.int .i64))) (h1 : ∀ q, v.ownBlock = some q → q < hi) (hh : hi ≤ w.heap.size) : OwN tIntS w lo hi [v] d :=
  flat_int.made h (rd_IntS.2 (IntRow.of_list h (owns_max h))) h1 hh
theorem IntsL.owN {w w' : World} {L : List Int} {e : Ending} (h : IntsL w L e w') : MadeT tIntS L w e w' := by
  obtain ⟨v, he, ho, hb⟩ := h
  exact ⟨v, he, own_ints ho (fun q hq => (ho.lt q hq).2) (Nat.le_refl _), hb⟩
theorem wt_IntS (d : List Int) : tIntS.wt d = d.length := by
  show d.length + (d.map fun _ => 0).sum = d.length
  have := sum_zero (f := fun _ : Int => 0) (fun _ => rfl) d
  omega
theorem mks_IntS (d : List Int) : tIntS.mks d = d.length := (sum_const (f := fun _ : Int => 1) (fun _ => rfl) d).trans (Nat.one_mul _)
theorem mkl_IntS (d : List Int) (k : Int) : List.length (α := Int) (tIntS.mkd k d) = d.length := mkList_len _ _ _ _
theorem mk_IntS (d : List Int) (k : Int) (i : Nat) (hi : i < d.length) : getI (tIntS.mkd k d) i = k + (i : Int) := by
  have h := mkList_get (mks := tInt.mks) (mkd := tInt.mkd) (m := 1) (fun _ => rfl) d k i
  have h2 : (mkList tInt.mks tInt.mkd k d)[i]? = some (k + ((1 : Nat) : Int) * i) := by
    rw [h]
    have : d[i]? = some d[i] := List.getElem?_eq_getElem hi
    exact congrArg (Option.map (tInt.mkd (k + ((1 : Nat) : Int) * i))) this
  unfold getI
  show List.getD (α := Int) (mkList tInt.mks tInt.mkd k d) i 0 = _
  refine (List.getD_eq_getElem?_getD (α := Int)).trans ?_
  refine (congrArg (fun o => Option.getD (α := Int) o 0) h2).trans ?_
  show k + ((1 : Nat) : Int) * i = _
  omega
theorem y_eq_IntS (v v' : Value) (d : List Int) (w : World) (h : RdA tIntS w [v] d) (h' : RdA tIntS w [v'] d) : Calls Try.prog 34 #[v, v'] w fun e w' => e = .returned (.bool true) ∧ Below w.heap.size w w' :=
  x_eq_IntS v d.length (getI d) v' w (rd_IntS.1 h) (rd_IntS.1 h')
theorem y_mk_IntS (v : Value) (d : List Int) (k : Int) (lo hi : Nat) (w : World) (h : OwN tIntS w lo hi [v] d) (h0 : 0 < k) (hk : k + tIntS.mks d ≤ 1000000000000) : Calls Try.prog 35 #[v, .int .i64 k] w (MarkT tIntS [v] d k lo hi w) := by
  obtain ⟨⟨xs, ho, _⟩, hin⟩ := flat_int.owned h
  have hm := mks_IntS d
  have hm2 : k + (d.length : Int) ≤ 1000000000000 := by omega
  refine (x_mk_IntS v d.length k lo hi lo xs w ho hin h0 hm2).mono fun e w' ⟨he, hr, ht⟩ => ⟨by rw [he, hm], ?_, ht⟩
  refine rdN_IntS ?_ hin
  have h1 := (IntRow.rec hr).congr (g' := fun i => [Value.int .i64 (getI (tIntS.mkd k d) i)]) (fun i hi => by rw [mk_IntS d k i hi])
  have h2 := h1.ints
  rw [← mkl_IntS d k] at h2
  exact h2
theorem y_hd_IntS (v : Value) (d : List Int) (k : Int) (w : World) (h : RdA tIntS w [v] (tIntS.mkd k d)) (h0 : 0 < k) (hk : k + tIntS.mks d ≤ 1000000000000) : Calls Try.prog 36 #[v, .int .i64 k] w (HeldT tIntS d k w) := by
  have hm := mks_IntS d
  have hm2 : k + (d.length : Int) ≤ 1000000000000 := by omega
  have hr : IntRow w v (List.length (α := Int) (tIntS.mkd k d)) (getI (tIntS.mkd k d)) := rd_IntS.1 h
  rw [mkl_IntS d k] at hr
  exact (x_hd_IntS v d.length k w (hr.rec.congr (fun i hi => by rw [mk_IntS d k i hi])).ints h0 hm2).mono fun e w' ⟨he, hb⟩ => ⟨by rw [he, hm], hb⟩
theorem yb_mk_IntS (v : Value) (d : List Int) (k : Int) (lo : Nat) (bs : List Nat) (w : World) (h : tIntS.Ow w lo [v] d bs) (hnd : bs.Nodup) (h0 : 0 < k) (hk : k + tIntS.mks d ≤ 1000000000000) : Calls Try.prog 35 #[v, .int .i64 k] w (MarkC tIntS [v] (tIntS.mkd k d) (tIntS.mks d) k bs w) :=
  flat_mark flat_int h fun lo hi ho => y_mk_IntS v d k lo hi w ho h0 hk
end Go.Proofs.Ytgemdjcadlejfaa
set_option linter.unusedVariables false
namespace Go.Proofs.Ytgemdjcadlejfaa
open Go.RowKit

def gtup (g : GameD) : tGame.D := (g.home, g.away, g.hg, g.ag, g.st)
def gtups (L : List GameD) : List tGame.D := L.map gtup
theorem gtups_len (L : List GameD) : List.length (α := tGame.D) (gtups L) = L.length := List.length_map ..
theorem gtups_at (L : List GameD) (i : Nat) (hi : i < L.length) : atGame (gtups L) i = L[i] := by
  unfold atGame gtups
  rw [List.getElem?_map, List.getElem?_eq_getElem hi]
  rfl
theorem ocells_rec : ∀ L : List GameD, RecCells 5 L.length (ocells L) fun i => ((L[i]?).getD default).cells
  | [], i, hi, _, _, _ => absurd hi (Nat.not_lt_zero _)
  | g :: L, 0, _, j, u, hu => by
    have hu2 : ([.int .i64 g.home, .int .i64 g.away, .int .i64 g.hg, .int .i64 g.ag, .int .i64 g.st] : List Value)[j]? = some u := hu
    match j, hu2 with
    | 0, h => simpa [ocells, GameD.cells] using h
    | 1, h => simpa [ocells, GameD.cells] using h
    | 2, h => simpa [ocells, GameD.cells] using h
    | 3, h => simpa [ocells, GameD.cells] using h
    | 4, h => simpa [ocells, GameD.cells] using h
    | n + 5, h => simp at h
  | g :: L, i + 1, hi, j, u, hu => by
    have h := ocells_rec L i (Nat.lt_of_succ_lt_succ hi) j u hu
    show (Value.int .i64 g.home :: Value.int .i64 g.away :: Value.int .i64 g.hg :: Value.int .i64 g.ag :: Value.int .i64 g.st :: ocells L)[(i + 1) * 5 + j]? = _
    rw [show (i + 1) * 5 + j = (i * 5 + j) + 1 + 1 + 1 + 1 + 1 by omega]
    simpa using h
theorem GamesM.owN {w w' : World} {L : List GameD} {e : Ending} (hl : L.length ≤ 1048576) (h : GamesM w L e w') : MadeT tGameS (gtups L) w e w' := by
  obtain ⟨v, he, ho, hb⟩ := h
  have hr : GameRow w' v L.length (fun i => (L[i]?).getD default) := GameRow.of_owns ho (by omega) (ocells_rec L)
  refine ⟨v, he, ?_, hb⟩
  have h1 : w'.ownsRow w.heap.size 66 5 v (List.length (α := tGame.D) (gtups L)) (ocells L) := by rw [gtups_len]; exact ho
  have h2 : GameRow w' v (List.length (α := tGame.D) (gtups L)) (atGame (gtups L)) := by
    rw [gtups_len]
    exact RecRow.congr hr fun i hi => by show ((L[i]?).getD default).cells = _; rw [gtups_at L i hi, List.getElem?_eq_getElem hi]; rfl
  exact own_GameS h1 h2 (fun q hq => (ho.lt q hq).2) (Nat.le_refl _)
theorem marks_games (d : List PairL) (hw : tPairSS.wt d ≤ 1048576) : tGameS.mks (gtups (gamesL d)) ≤ 100000000000 := by
  have h := gamesL_len d
  rw [mks_GameS, gtups_len]
  omega
theorem marks_venues (d : List PairL) (tm : Int) (hw : tPairSS.wt d ≤ 1048576) : tIntS.mks (d.map fun r => venueL r tm) ≤ 100000000000 := by
  have e : tPairSS.wt d = List.length (α := PairL) d + (d.map tPairS.wt).sum := rfl
  have e2 : tIntS.mks (d.map fun r => venueL r tm) = 1 * List.length (α := Int) (d.map fun r => venueL r tm) := sum_const (f := tInt.mks) (fun _ => rfl) _
  rw [e2, List.length_map]
  have h9 : List.length (α := PairL) d ≤ 1048576 := by omega
  show 1 * List.length (α := PairL) d ≤ _
  omega
end Go.Proofs.Ytgemdjcadlejfaa
