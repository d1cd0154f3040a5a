/-
  Packed: CircMarks, TripTy.
-/
import Derived.Test.YtfkfolglfmmkoaaQ12
set_option linter.unusedVariables false
namespace Go.Proofs.Ytfkfolglfmmkoaa
open Go.RowKit

theorem mks_SS (d : List PairL) : tPairSS.mks d = (d.map fun r => 2 * List.length (α := tPair.D) r).sum := by
  show (d.map tPairS.mks).sum = _
  congr 1
  exact List.map_congr_left fun r _ => mks_PairS r
theorem wt_SS (d : List PairL) : tPairSS.wt d = List.length (α := PairL) d + (d.map fun r => List.length (α := tPair.D) r).sum := by
  show List.length (α := PairL) d + (d.map tPairS.wt).sum = _
  congr 2
  exact List.map_congr_left fun r _ => wt_PairS r
theorem sum_circ (n m : Nat) : ∀ k, ((circN n m k).map fun r => List.length (α := tPair.D) r).sum ≤ k * m
  | 0 => Nat.zero_le _
  | k + 1 => by
    have h := sum_circ n m k
    have h2 := circK_len n m k (m / 2)
    show ((circN n m k ++ [circK n m k (m / 2)]).map fun r => List.length (α := tPair.D) r).sum ≤ _
    rw [List.map_append, List.sum_append, Nat.succ_mul]
    show _ + (List.length (α := tPair.D) (circK n m k (m / 2)) + 0) ≤ _
    omega
theorem sum_two (d : List PairL) : (d.map fun r => 2 * List.length (α := tPair.D) r).sum = 2 * (d.map fun r => List.length (α := tPair.D) r).sum := by
  induction d with
  | nil => rfl
  | cons r d ih => rw [List.map_cons, List.sum_cons, List.map_cons, List.sum_cons, ih]; omega
theorem sum_circL {n : Nat} (h : n ≤ 8) : ((circL n).map fun r => List.length (α := tPair.D) r).sum ≤ 81 := by
  refine Nat.le_trans (sum_circ n (n + n % 2) (n + n % 2 - 1)) ?_
  have h1 : n + n % 2 - 1 ≤ 9 := by omega
  have h2 : n + n % 2 ≤ 9 := by omega
  exact Nat.mul_le_mul h1 h2
theorem len_circL {n : Nat} (h : n ≤ 8) : List.length (α := PairL) (circL n) ≤ 9 := by unfold circL; rw [circN_len]; omega
theorem marks_circ {R : Bool} {N : Int} (hR : R = true ↔ (2 ≤ N ∧ N ≤ 8)) : tPairSS.mks (circR R N) ≤ 100000000000 := by
  rw [mks_SS, sum_two]
  cases R with
  | false => exact Nat.zero_le _
  | true =>
    have h := sum_circL (n := N.toNat) (by have := hR.1 rfl; omega)
    show 2 * ((circL N.toNat).map fun r => List.length (α := tPair.D) r).sum ≤ _
    omega
theorem wt_circ {n : Nat} (h : n ≤ 8) : tPairSS.wt (circL n) ≤ 100 := by
  rw [wt_SS]
  have h1 := sum_circL h
  have h2 := len_circL h
  omega
theorem sum_turn (d : List PairL) : ((d.map turnR).map fun r => List.length (α := tPair.D) r).sum = (d.map fun r => List.length (α := tPair.D) r).sum := by
  induction d with
  | nil => rfl
  | cons r d ih =>
    rw [List.map_cons, List.map_cons, List.sum_cons, List.map_cons, List.sum_cons, ih]
    congr 1
    exact List.length_map ..
theorem wt_mir (d : List PairL) : tPairSS.wt (mirL d) = 2 * tPairSS.wt d := by
  rw [wt_SS, wt_SS]
  unfold mirL
  rw [List.map_append, List.sum_append, sum_turn, List.length_append, List.length_map]
  show List.length (α := PairL) d + List.length (α := PairL) d + _ = _
  omega
theorem marks_mir (d : List PairL) (hw : tPairSS.wt d ≤ 1048576) : tPairSS.mks (mirL d) ≤ 100000000000 := by
  have h1 := wt_mir d
  rw [wt_SS] at h1
  rw [mks_SS, sum_two]
  omega
end Go.Proofs.Ytfkfolglfmmkoaa
set_option linter.unusedVariables false
namespace Go.Proofs.Ytfkfolglfmmkoaa
open Go.RowKit

theorem map_rd {w : World} {v : Value} {x : Int} {d : tMap.D} (h : RdA tMap w [.int .i64 x, v] d) : IntRow w v (List.length (α := Int) d.2) (getI d.2) := rd_IntS.1 (rd_split h).2
theorem mks_intsT (T : List Int) : tIntS.mks T = 1 * List.length (α := Int) T := sum_const (f := tInt.mks) (fun _ => rfl) _
theorem marks_reo {R : Bool} {D : List PairL} {O : List Int} (hR : R = true ↔ ordP (List.length (α := PairL) D) O) (h : tPairSS.wt D ≤ 1048576) : tPairSS.mks (reoV R D O) ≤ 100000000000 := by
  rw [mks_SS, sum_two]
  cases R with
  | false => exact Nat.zero_le _
  | true =>
    have h1 := sum_reo (hR.1 rfl) (fun r => List.length (α := tPair.D) r)
    have h2 : tPairSS.wt D = List.length (α := PairL) D + (List.map tPairS.wt D).sum := rfl
    have h3 : (List.map (fun r : PairL => List.length (α := tPair.D) r) D).sum ≤ (List.map tPairS.wt D).sum := by
      clear h1 h2 h hR
      induction (D : List PairL) with
      | nil => exact Nat.le_refl _
      | cons a r ih =>
        have h4 := wt_PairS a
        exact Nat.add_le_add (Nat.le_of_eq h4.symm) ih
    have h6 : 2 * (List.map (fun r : PairL => List.length (α := tPair.D) r) (reoL D O)).sum ≤ 100000000000 := by omega
    exact h6
theorem marks_best {R : Bool} {s : Int} {K : List Int} {D : List PairL} (h : tPairSS.wt D ≤ 1048576) : tIntS.mks (((bestV R s K D).map Prod.fst).getD []) ≤ 100000000000 := by
  rw [mks_intsT]
  have h1 := bestV_len (R := R) (s := s) (K := K) (D := D)
  have h2 : tPairSS.wt D = List.length (α := PairL) D + (List.map tPairS.wt D).sum := rfl
  show 1 * (((bestV R s K D).map Prod.fst).getD []).length ≤ _
  omega
theorem BestM.owN {w w' : World} {R : Bool} {o : Option (List Int × Int)} {e : Ending} (h : BestM w R o e w') : ∃ v, e = .returned (.tuple #[v, .int .i64 ((o.map Prod.snd).getD 0), .bool R]) ∧ OwN tIntS w' w.heap.size w'.heap.size [v] ((o.map Prod.fst).getD []) ∧ Below w.heap.size w w' := by
  obtain ⟨v, he, ho, hb⟩ := h
  exact ⟨v, he, own_ints ho (fun q hq => (ho.lt q hq).2) (Nat.le_refl _), hb⟩
end Go.Proofs.Ytfkfolglfmmkoaa
