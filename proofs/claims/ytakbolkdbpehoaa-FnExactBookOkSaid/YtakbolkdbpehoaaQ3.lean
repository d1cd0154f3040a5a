/-
  Packed: TyTeam, First, TyIntS, TyRules, TypeGame, TyGame.
-/
import Derived.Deep.RegionHeld3
import Derived.Test.YtakbolkdbpehoaaQ1
import Derived.Test.YtakbolkdbpehoaaQ2
set_option linter.unusedVariables false
namespace Go.Proofs.Ytakbolkdbpehoaa
open Go.RowKit

def tTeam : Ty := tTwo tStr (tTwo tInt tInt)
def tTeamS : Ty := tSl 69 tTeam
theorem opens_Team : Opens Try.prog 68 tTeam := opens_struct Try.underlying68 (by kernel_rfl) ⟨rfl, _, _, rfl, (opens_str Try.underlying9 (by kernel_rfl)), ⟨rfl, _, _, rfl, (opens_int Try.underlying3 (by kernel_rfl)), ⟨rfl, (opens_int Try.underlying3 (by kernel_rfl))⟩⟩⟩
theorem opens_TeamS : Opens Try.prog 22 tTeamS := opens_sl Try.underlying22 (by kernel_rfl) opens_Team
def ofTeam (x : tTeam.D) : TeamD := ⟨x.1, x.2.1, x.2.2⟩
def atTeam (d : List tTeam.D) (i : Nat) : TeamD := ((d[i]?).map ofTeam).getD default
theorem flat_Team : FlatT tTeam fun x => (ofTeam x).cells := (flat_two flat_str (flat_two flat_int flat_int))
theorem cells_Team {d : List tTeam.D} {i : Nat} (hi : i < d.length) : cellsAt (fun x => (ofTeam x).cells) d i = (atTeam d i).cells := by
  refine (cellsAt_lt (List.getElem?_eq_getElem hi)).trans ?_
  unfold atTeam; rw [List.getElem?_eq_getElem hi]; rfl
theorem rd_TeamS {w : World} {v : Value} {d : List tTeam.D} : RdA tTeamS w [v] d ↔ TeamRow w v d.length (atTeam d) := by
  have e := fun i (hi : i < d.length) => cells_Team hi
  exact flat_Team.rdA.trans ⟨fun h => RecRow.teams (RecRow.congr h e), fun h => RecRow.congr (TeamRow.rec h) fun i hi => (e i hi).symm⟩
theorem atTeam_size {d : List tTeam.D} (h : tTeamS.fit d) (i : Nat) : (atTeam d i).nm.size ≤ maxLen := by
  unfold atTeam
  cases hx : d[i]? with
  | none => simp [default, maxLen]
  | some x => exact (h x (List.mem_iff_getElem?.2 ⟨i, hx⟩)).1
theorem mks_TeamS (d : List tTeam.D) : tTeamS.mks d = 3 * d.length := sum_const (f := tTeam.mks) (fun _ => rfl) d
theorem mkl_TeamS (d : List tTeam.D) (k : Int) : List.length (α := tTeam.D) (tTeamS.mkd k d) = d.length := mkList_len _ _ _ _
theorem tot_take (d : List tTeam.D) : ∀ k, k ≤ d.length → totT (atTeam d) k = ((d.take k).map tTeam.wt).sum
  | 0, _ => rfl
  | k + 1, h => by
    have hk : k < d.length := by omega
    rw [List.take_add_one, List.getElem?_eq_getElem hk, List.map_append, List.sum_append]
    unfold totT
    rw [tot_take d k (by omega)]
    have e : atTeam d k = ofTeam d[k] := by unfold atTeam; rw [List.getElem?_eq_getElem hk]; rfl
    rw [e]
    show _ + (d[k]).1.size = _ + ((d[k]).1.size + (0 + 0) + 0)
    omega
theorem wt_TeamS (d : List tTeam.D) : tTeamS.wt d = d.length + totT (atTeam d) d.length := by
  rw [tot_take d _ (Nat.le_refl _), List.take_length]; rfl
theorem own_TeamS {w : World} {lo hi : Nat} {v : Value} {d : List tTeam.D} {xs : List Value} (h : w.ownsRow lo 69 3 v d.length xs) (hr : TeamRow w v d.length (atTeam d)) (h1 : ∀ q, v.ownBlock = some q → q < hi) (hh : hi ≤ w.heap.size) : OwN tTeamS w lo hi [v] d :=
  flat_Team.made h (rd_TeamS.2 hr) h1 hh
theorem y_sz_TeamS (v : Value) (d : List tTeam.D) (left : Int) (w : World) (hl0 : 0 ≤ left) (hl : left ≤ 1048576) (h : RdA tTeamS w [v] d) (hf : tTeamS.fit d) : Calls Try.prog 14 #[v, .int .i64 left] w (SzT tTeamS d left w) := by
  obtain ⟨l, rfl⟩ : ∃ l : Nat, left = l := ⟨left.toNat, by omega⟩
  refine (szTeamS_any v d.length l (atTeam d) w (rd_TeamS.1 h) (fun i => by have := atTeam_size hf i; unfold maxLen at this; omega) (by omega)).mono fun e w' ⟨⟨r, he, hr⟩, hb⟩ => ⟨⟨r, he, ?_⟩, hb⟩
  rw [wt_TeamS]
  rcases hr with hr | ⟨h1, h2⟩
  · exact .inl hr
  · exact .inr ⟨h1, by omega⟩
theorem y_to_TeamS (v : Value) (d : List tTeam.D) (w : World) (h : RdA tTeamS w [v] d) (hw : tTeamS.wt d ≤ 1048576) : Calls Try.prog 22 #[v] w (MadeT tTeamS d w) :=
  (toTeamS_any v d.length (atTeam d) w (rd_TeamS.1 h) (by rw [wt_TeamS] at hw; omega)).mono fun e w' ⟨v', he, hr, ⟨xs, ho⟩, hb⟩ => ⟨v', he, flat_Team.made ho (rd_TeamS.2 hr) (fun q hq => (ho.lt q hq).2) (Nat.le_refl _), hb⟩
theorem y_eq_TeamS (v v' : Value) (d : List tTeam.D) (w : World) (h : RdA tTeamS w [v] d) (h' : RdA tTeamS w [v'] d) : Calls Try.prog 29 #[v, v'] w fun e w' => e = .returned (.bool true) ∧ Below w.heap.size w w' :=
  eqTeamS_same v v' d.length (atTeam d) w (rd_TeamS.1 h) (rd_TeamS.1 h')
/-- team number i, marked from k on -/
def teamMk (k : Int) (i : Nat) : TeamD := ⟨mkT (k + 3 * (i : Int)).toNat, k + 3 * (i : Int) + 1, k + 3 * (i : Int) + 1 + 1⟩
theorem mk_TeamS (d : List tTeam.D) (k : Int) (i : Nat) (hi : i < d.length) : atTeam (tTeamS.mkd k d) i = teamMk k i := by
  have h := mkList_get (mks := tTeam.mks) (mkd := tTeam.mkd) (m := 3) (fun _ => rfl) d k i
  have h2 : (mkList tTeam.mks tTeam.mkd k d)[i]? = some (tTeam.mkd (k + ((3 : Nat) : Int) * i) d[i]) := by
    rw [h, List.getElem?_eq_getElem hi]; rfl
  unfold atTeam
  refine (congrArg (fun o => (Option.map ofTeam o).getD default) h2).trans ?_
  rfl
end Go.Proofs.Ytakbolkdbpehoaa
set_option linter.unusedVariables false
namespace Go.Proofs.Ytakbolkdbpehoaa
open Go.RowKit

/-- the first index from k on, of r more, where p holds; else -1 -/
def firstI (p : Nat → Bool) : Nat → Nat → Int
  | 0, _ => -1
  | r + 1, k => if p k = true then (k : Int) else firstI p r (k + 1)
theorem firstI_pos (p : Nat → Bool) (r : Nat) : ∀ k, 0 ≤ firstI p r k ↔ ∃ j, k ≤ j ∧ j < k + r ∧ p j = true := by
  induction r with
  | zero => intro k; unfold firstI; constructor
            · intro h; omega
            · rintro ⟨j, h1, h2, _⟩; omega
  | succ r ih =>
    intro k
    unfold firstI
    by_cases h : p k = true
    · rw [if_pos h]
      exact ⟨fun _ => ⟨k, Nat.le_refl _, by omega, h⟩, fun _ => by omega⟩
    · rw [if_neg h, ih (k + 1)]
      constructor
      · rintro ⟨j, h1, h2, h3⟩; exact ⟨j, by omega, by omega, h3⟩
      · rintro ⟨j, h1, h2, h3⟩
        refine ⟨j, ?_, by omega, h3⟩
        rcases Nat.lt_or_ge k j with h4 | h4
        · omega
        · obtain rfl : j = k := by omega
          exact absurd h3 h
theorem firstI_step {p : Nat → Bool} {k n : Nat} (h : k < n) : firstI p (n - k) k = if p k = true then (k : Int) else firstI p (n - (k + 1)) (k + 1) := by
  rw [show n - k = n - (k + 1) + 1 by omega]; rfl
theorem firstI_ge (p : Nat → Bool) (r : Nat) : ∀ k, firstI p r k = -1 ∨ (k : Int) ≤ firstI p r k ∧ firstI p r k < (k : Int) + r := by
  induction r with
  | zero => intro k; exact .inl rfl
  | succ r ih =>
    intro k
    unfold firstI
    by_cases h : p k = true
    · rw [if_pos h]; right; omega
    · rw [if_neg h]
      rcases ih (k + 1) with h1 | h1
      · exact .inl h1
      · right; omega
theorem firstI_congr {p q : Nat → Bool} (r : Nat) : ∀ k, (∀ i, k ≤ i → i < k + r → p i = q i) → firstI p r k = firstI q r k := by
  induction r with
  | zero => intro k _; rfl
  | succ r ih =>
    intro k h
    unfold firstI
    rw [h k (Nat.le_refl _) (by omega), ih (k + 1) fun i h1 h2 => h i (by omega) (by omega)]
/-- it is the first -/
theorem firstI_eq {p : Nat → Bool} (r : Nat) : ∀ k j, firstI p r k = (j : Nat) ↔ (k ≤ j ∧ j < k + r) ∧ p j = true ∧ ∀ i, k ≤ i → i < j → p i = false := by
  induction r with
  | zero => intro k j; unfold firstI; constructor
            · intro h; omega
            · rintro ⟨h, _⟩; omega
  | succ r ih =>
    intro k j
    unfold firstI
    by_cases h : p k = true
    · rw [if_pos h]
      constructor
      · intro e
        obtain rfl : k = j := by omega
        exact ⟨by omega, h, fun i h1 h2 => by omega⟩
      · rintro ⟨h1, h2, h3⟩
        by_cases e : k = j
        · rw [e]
        · have := h3 k (Nat.le_refl _) (by omega)
          rw [h] at this; cases this
    · rw [if_neg h, ih (k + 1) j]
      have hk : p k = false := by simpa using h
      constructor
      · rintro ⟨h1, h2, h3⟩
        refine ⟨by omega, h2, fun i h4 h5 => ?_⟩
        by_cases e : i = k
        · rw [e]; exact hk
        · exact h3 i (by omega) h5
      · rintro ⟨h1, h2, h3⟩
        have : k ≠ j := fun e => by rw [e] at hk; rw [hk] at h2; cases h2
        exact ⟨by omega, h2, fun i h4 h5 => h3 i (by omega) h5⟩
/-- the indices below k at which p holds, in order -/
def idxL (p : Nat → Bool) : Nat → List Int
  | 0 => []
  | k + 1 => if p k = true then idxL p k ++ [(k : Int)] else idxL p k
theorem idxL_yes {p : Nat → Bool} {k : Nat} (h : p k = true) : idxL p (k + 1) = idxL p k ++ [(k : Int)] := if_pos h
theorem idxL_no {p : Nat → Bool} {k : Nat} (h : p k = false) : idxL p (k + 1) = idxL p k := if_neg (by rw [h]; simp)
theorem idxL_len (p : Nat → Bool) : ∀ k, (idxL p k).length ≤ k := by
  intro k
  induction k with
  | zero => exact Nat.le_refl _
  | succ k ih =>
    unfold idxL
    split
    · simp; omega
    · omega
theorem idxL_congr {p q : Nat → Bool} : ∀ k, (∀ i, i < k → p i = q i) → idxL p k = idxL q k := by
  intro k
  induction k with
  | zero => intro _; rfl
  | succ k ih => intro h; unfold idxL; rw [h k (by omega), ih fun i hi => h i (by omega)]
/-- the call makes the numbers L in memory of its own -/
def IntsL (w : World) (L : List Int) (e : Ending) (w' : World) : Prop :=
  ∃ v, e = .returned v ∧ w'.ownsRow w.heap.size 3 1 v L.length (L.map (Value.int .i64)) ∧ Below w.heap.size w w'
theorem IntsL.made {w w' : World} {L : List Int} {e : Ending} (h : IntsL w L e w') (hl : L.length ≤ 9223372036854775807) :
    ∃ v, e = .returned v ∧ IntRow w' v L.length (getI L) ∧ (∃ xs, w'.ownsRow w.heap.size 3 1 v L.length xs) ∧ Below w.heap.size w w' := by
  obtain ⟨v, he, ho, hb⟩ := h
  exact ⟨v, he, IntRow.of_list ho (by omega), ⟨_, ho⟩, hb⟩
end Go.Proofs.Ytakbolkdbpehoaa
set_option linter.unusedVariables false
namespace Go.Proofs.Ytakbolkdbpehoaa
open Go.RowKit

def tIntS : Ty := tSl 3 tInt
theorem opens_IntS : Opens Try.prog 23 tIntS := opens_sl Try.underlying23 (by kernel_rfl) (opens_int Try.underlying3 (by kernel_rfl))
theorem cells_int {d : List Int} {i : Nat} (hi : i < d.length) : cellsAt (fun z : Int => [Value.int .i64 z]) d i = [.int .i64 (getI d i)] := by
  refine (cellsAt_lt (List.getElem?_eq_getElem hi)).trans ?_
  unfold getI; simp [hi]
theorem rd_IntS {w : World} {v : Value} {d : List Int} : RdA tIntS w [v] d ↔ IntRow w v d.length (getI d) := by
  have e := fun i (hi : i < d.length) => cells_int hi
  exact flat_int.rdA.trans ⟨fun h => RecRow.ints (RecRow.congr h e), fun h => RecRow.congr h.rec fun i hi => (e i hi).symm⟩
theorem rdN_IntS {w : World} {lo hi : Nat} {v : Value} {d : List Int} (h : IntRow w v d.length (getI d)) (hi2 : InW lo hi v) : RdN tIntS w lo hi [v] d :=
  flat_int.reads (flat_int.row (rd_IntS.2 h)) fun _ q hq => hi2 q hq
theorem own_ints {w : World} {lo hi : Nat} {v : Value} {d : List Int} (h : w.ownsRow lo 3 1 v d.length (d.map (Value.int .i64))) (h1 : ∀ q, v.ownBlock = some q → q < hi) (hh : hi ≤ w.heap.size) : OwN tIntS w lo hi [v] d :=
  flat_int.made h (rd_IntS.2 (IntRow.of_list h (owns_max h))) h1 hh
theorem IntsL.owN {w w' : World} {L : List Int} {e : Ending} (h : IntsL w L e w') : MadeT tIntS L w e w' := by
  obtain ⟨v, he, ho, hb⟩ := h
  exact ⟨v, he, own_ints ho (fun q hq => (ho.lt q hq).2) (Nat.le_refl _), hb⟩
theorem wt_IntS (d : List Int) : tIntS.wt d = d.length := by
  show d.length + (d.map fun _ => 0).sum = d.length
  have := sum_zero (f := fun _ : Int => 0) (fun _ => rfl) d
  omega
theorem mks_IntS (d : List Int) : tIntS.mks d = d.length := (sum_const (f := fun _ : Int => 1) (fun _ => rfl) d).trans (Nat.one_mul _)
theorem mkl_IntS (d : List Int) (k : Int) : List.length (α := Int) (tIntS.mkd k d) = d.length := mkList_len _ _ _ _
theorem mk_IntS (d : List Int) (k : Int) (i : Nat) (hi : i < d.length) : getI (tIntS.mkd k d) i = k + (i : Int) := by
  have h := mkList_get (mks := tInt.mks) (mkd := tInt.mkd) (m := 1) (fun _ => rfl) d k i
  have h2 : (mkList tInt.mks tInt.mkd k d)[i]? = some (k + ((1 : Nat) : Int) * i) := by
    rw [h]
    have : d[i]? = some d[i] := List.getElem?_eq_getElem hi
    exact congrArg (Option.map (tInt.mkd (k + ((1 : Nat) : Int) * i))) this
  unfold getI
  show List.getD (α := Int) (mkList tInt.mks tInt.mkd k d) i 0 = _
  refine (List.getD_eq_getElem?_getD (α := Int)).trans ?_
  refine (congrArg (fun o => Option.getD (α := Int) o 0) h2).trans ?_
  show k + ((1 : Nat) : Int) * i = _
  omega
theorem y_sz_IntS (v : Value) (d : List Int) (left : Int) (w : World) (hl0 : 0 ≤ left) (hl : left ≤ 1048576) (h : RdA tIntS w [v] d) : Calls Try.prog 17 #[v, .int .i64 left] w (SzT tIntS d left w) :=
  (x_sz_IntS v d.length (getI d) left w hl0 hl (rd_IntS.1 h)).mono fun e w' ⟨⟨r, he, hr⟩, hb⟩ => ⟨⟨r, he, by rw [wt_IntS]; exact hr⟩, hb⟩
theorem y_to_IntS (v : Value) (d : List Int) (w : World) (h : RdA tIntS w [v] d) (hw : tIntS.wt d ≤ 1048576) : Calls Try.prog 11 #[v] w (MadeT tIntS d w) :=
  (x_to_IntS v d.length (getI d) w (rd_IntS.1 h) (by rw [wt_IntS] at hw; exact hw)).mono fun e w' ⟨v', he, hr, ⟨xs, ho⟩, hb⟩ => ⟨v', he, flat_int.made ho (rd_IntS.2 hr) (fun q hq => (ho.lt q hq).2) (Nat.le_refl _), hb⟩
theorem y_eq_IntS (v v' : Value) (d : List Int) (w : World) (h : RdA tIntS w [v] d) (h' : RdA tIntS w [v'] d) : Calls Try.prog 13 #[v, v'] w fun e w' => e = .returned (.bool true) ∧ Below w.heap.size w w' :=
  x_eq_IntS v d.length (getI d) v' w (rd_IntS.1 h) (rd_IntS.1 h')
end Go.Proofs.Ytakbolkdbpehoaa
set_option linter.unusedVariables false
namespace Go.Proofs.Ytakbolkdbpehoaa
open Go.RowKit

def tRules : Ty := tTwo tInt (tTwo tInt (tTwo tInt (tTwo tIntS tBool)))
theorem opens_Rules : Opens Try.prog 25 tRules := opens_struct Try.underlying25 (by kernel_rfl) ⟨rfl, _, _, rfl, (opens_int Try.underlying3 (by kernel_rfl)), ⟨rfl, _, _, rfl, (opens_int Try.underlying3 (by kernel_rfl)), ⟨rfl, _, _, rfl, (opens_int Try.underlying3 (by kernel_rfl)), ⟨rfl, _, _, rfl, opens_IntS, ⟨rfl, (opens_bool Try.underlying4 (by kernel_rfl))⟩⟩⟩⟩⟩
set_option maxRecDepth 100000 in
set_option maxHeartbeats 2000000 in
theorem y_sz_Rules (x_Win : Int) (x_Draw : Int) (x_Loss : Int) (vx_Ladder : Value) (x_Again : Bool) (d : tRules.D) (left : Int) (w : World) (hl0 : 0 ≤ left) (hl : left ≤ 1048576) (h : RdA tRules w [.int .i64 x_Win, .int .i64 x_Draw, .int .i64 x_Loss, vx_Ladder, .bool x_Again] d) : Calls Try.prog 15 #[.agg #[.int .i64 x_Win, .int .i64 x_Draw, .int .i64 x_Loss, vx_Ladder, .bool x_Again], .int .i64 left] w (SzT tRules d left w) := by
  have hwt : tRules.wt d = (tInt.wt d.1 + (tInt.wt d.2.1 + (tInt.wt d.2.2.1 + (tIntS.wt d.2.2.2.1 + tBool.wt d.2.2.2.2)))) := rfl
  have hz0 : tInt.wt d.1 = 0 := rfl
  have hz1 : tInt.wt d.2.1 = 0 := rfl
  have hz2 : tInt.wt d.2.2.1 = 0 := rfl
  have hz4 : tBool.wt d.2.2.2.2 = 0 := rfl
  have P0 : RdA tInt w [.int .i64 x_Win] d.1 := (rd_split h).1
  have Pt0 := (rd_split h).2
  have P1 : RdA tInt w [.int .i64 x_Draw] d.2.1 := (rd_split Pt0).1
  have Pt1 := (rd_split Pt0).2
  have P2 : RdA tInt w [.int .i64 x_Loss] d.2.2.1 := (rd_split Pt1).1
  have Pt2 := (rd_split Pt1).2
  have P3 : RdA tIntS w [vx_Ladder] d.2.2.2.1 := (rd_split Pt2).1
  have Pt3 := (rd_split Pt2).2
  have P4 : RdA tBool w [.bool x_Again] d.2.2.2.2 := Pt3
  clear Pt0 Pt1 Pt2 Pt3
  have HP3 := Lib.hid P3
  obtain ⟨W3, hW3⟩ : ∃ z, tIntS.wt d.2.2.2.1 = z := ⟨_, rfl⟩
  unfold SzT
  rw [hwt]
  rw [hz0, hz1, hz2, hz4]
  clear hwt h P0 P1 P2 P3 P4 hz0 hz1 hz2 hz4
  have HB0 : Hid (Below w.heap.size w (w.alloc (.cells #[.int .i64 x_Win, .int .i64 x_Draw, .int .i64 x_Loss, vx_Ladder, .bool x_Again] 25))) := (Below.refl _ _).alloc (Nat.le_refl _) _
  have BX0 : Hid (BoxN (w.alloc (.cells #[.int .i64 x_Win, .int .i64 x_Draw, .int .i64 x_Loss, vx_Ladder, .bool x_Again] 25)) w.heap.size [.int .i64 x_Win, .int .i64 x_Draw, .int .i64 x_Loss, vx_Ladder, .bool x_Again]) := BoxN.made (Below.refl _ _) rfl
  have c0 := BX0.out.2 0 _ rfl
  have c1 := BX0.out.2 1 _ rfl
  have c2 := BX0.out.2 2 _ rfl
  have c3 := BX0.out.2 3 _ rfl
  have c4 := BX0.out.2 4 _ rfl
  go_enter Try.func15, Try.ntmps15
  go_wp2_with fail
  refine (y_sz_IntS vx_Ladder d.2.2.2.1 left _ (by omega) (by omega) (RdA.below HP3.out HB0.out)).mono ?_
  rintro e w1 ⟨⟨r1, rfl, hr1⟩, b1⟩
  rw [hW3] at hr1
  have HB1 := Lib.hid (HB0.out.trans (b1.mono HB0.out.size))
  have BX1 := Lib.hid (BX0.out.below b1)
  clear c0 c1 c2 c3 c4 BX0 b1
  have c0 := BX1.out.2 0 _ rfl
  have c1 := BX1.out.2 1 _ rfl
  have c2 := BX1.out.2 2 _ rfl
  have c3 := BX1.out.2 3 _ rfl
  have c4 := BX1.out.2 4 _ rfl
  by_cases hn1 : r1 < 0
  · have g2 : decide (r1 < 0) = true := decide_eq_true hn1
    have HE := Lib.hid HB1.out
    clear hr1
    go_wp2
    go_ret
    exact ⟨⟨-1, rfl, .inl (by omega)⟩, HE.out⟩
  have g1 : decide (r1 < 0) = false := decide_eq_false hn1
  replace hn1 : 0 ≤ r1 ∧ (W3 : Int) + r1 = left := by omega
  clear hr1
  have HE := Lib.hid HB1.out
  go_wp2
  go_ret
  refine ⟨⟨_, rfl, .inr ⟨by omega, ?_⟩⟩, HE.out⟩
  rw [hW3]
  omega
set_option maxRecDepth 100000 in
set_option maxHeartbeats 2000000 in
theorem y_eq_Rules (x_Win : Int) (x_Draw : Int) (x_Loss : Int) (vx_Ladder : Value) (x_Again : Bool) (vx_Ladder' : Value) (d : tRules.D) (w : World) (h : RdA tRules w [.int .i64 x_Win, .int .i64 x_Draw, .int .i64 x_Loss, vx_Ladder, .bool x_Again] d) (h' : RdA tRules w [.int .i64 x_Win, .int .i64 x_Draw, .int .i64 x_Loss, vx_Ladder', .bool x_Again] d) : Calls Try.prog 30 #[.agg #[.int .i64 x_Win, .int .i64 x_Draw, .int .i64 x_Loss, vx_Ladder, .bool x_Again], .agg #[.int .i64 x_Win, .int .i64 x_Draw, .int .i64 x_Loss, vx_Ladder', .bool x_Again]] w fun e w' => e = .returned (.bool true) ∧ Below w.heap.size w w' := by
  have P0 : RdA tInt w [.int .i64 x_Win] d.1 := (rd_split h).1
  have Pt0 := (rd_split h).2
  have P1 : RdA tInt w [.int .i64 x_Draw] d.2.1 := (rd_split Pt0).1
  have Pt1 := (rd_split Pt0).2
  have P2 : RdA tInt w [.int .i64 x_Loss] d.2.2.1 := (rd_split Pt1).1
  have Pt2 := (rd_split Pt1).2
  have P3 : RdA tIntS w [vx_Ladder] d.2.2.2.1 := (rd_split Pt2).1
  have Pt3 := (rd_split Pt2).2
  have P4 : RdA tBool w [.bool x_Again] d.2.2.2.2 := Pt3
  clear Pt0 Pt1 Pt2 Pt3
  have Q0 : RdA tInt w [.int .i64 x_Win] d.1 := (rd_split h').1
  have Qt0 := (rd_split h').2
  have Q1 : RdA tInt w [.int .i64 x_Draw] d.2.1 := (rd_split Qt0).1
  have Qt1 := (rd_split Qt0).2
  have Q2 : RdA tInt w [.int .i64 x_Loss] d.2.2.1 := (rd_split Qt1).1
  have Qt2 := (rd_split Qt1).2
  have Q3 : RdA tIntS w [vx_Ladder'] d.2.2.2.1 := (rd_split Qt2).1
  have Qt3 := (rd_split Qt2).2
  have Q4 : RdA tBool w [.bool x_Again] d.2.2.2.2 := Qt3
  clear Qt0 Qt1 Qt2 Qt3
  have HP3 := Lib.hid P3
  have HQ3 := Lib.hid Q3
  have HB0 : Hid (Below w.heap.size w ((w.alloc (.cells #[.int .i64 x_Win, .int .i64 x_Draw, .int .i64 x_Loss, vx_Ladder, .bool x_Again] 32)).alloc (.cells #[.int .i64 x_Win, .int .i64 x_Draw, .int .i64 x_Loss, vx_Ladder', .bool x_Again] 32))) := ((Below.refl _ _).alloc (Nat.le_refl _) _).alloc (by simp) _
  have BX0 : Hid (BoxN ((w.alloc (.cells #[.int .i64 x_Win, .int .i64 x_Draw, .int .i64 x_Loss, vx_Ladder, .bool x_Again] 32)).alloc (.cells #[.int .i64 x_Win, .int .i64 x_Draw, .int .i64 x_Loss, vx_Ladder', .bool x_Again] 32)) w.heap.size [.int .i64 x_Win, .int .i64 x_Draw, .int .i64 x_Loss, vx_Ladder, .bool x_Again]) := BoxN.below (BoxN.made (Below.refl _ _) rfl) ((Below.refl _ _).alloc (Nat.le_refl _) _)
  have BY0 : Hid (BoxN ((w.alloc (.cells #[.int .i64 x_Win, .int .i64 x_Draw, .int .i64 x_Loss, vx_Ladder, .bool x_Again] 32)).alloc (.cells #[.int .i64 x_Win, .int .i64 x_Draw, .int .i64 x_Loss, vx_Ladder', .bool x_Again] 32)) (w.heap.size + 1) [.int .i64 x_Win, .int .i64 x_Draw, .int .i64 x_Loss, vx_Ladder', .bool x_Again]) := BoxN.made (Below.refl _ _) (by simp)
  clear h h' P0 Q0 P1 Q1 P2 Q2 P3 Q3 P4 Q4
  have c0 := BX0.out.2 0 _ rfl
  have c1 := BX0.out.2 1 _ rfl
  have c2 := BX0.out.2 2 _ rfl
  have c3 := BX0.out.2 3 _ rfl
  have c4 := BX0.out.2 4 _ rfl
  have e0 := BY0.out.2 0 _ rfl
  have e1 := BY0.out.2 1 _ rfl
  have e2 := BY0.out.2 2 _ rfl
  have e3 := BY0.out.2 3 _ rfl
  have e4 := BY0.out.2 4 _ rfl
  have bl := BX0.out.1
  have bm := BY0.out.1
  go_enter Try.func30, Try.ntmps30
  go_wp2_with fail
  refine (y_eq_IntS vx_Ladder vx_Ladder' d.2.2.2.1 _ (RdA.below HP3.out HB0.out) (RdA.below HQ3.out HB0.out)).mono ?_
  rintro e w1 ⟨rfl, b1⟩
  have HB1 := Lib.hid (HB0.out.trans (b1.mono HB0.out.size))
  have BX1 := Lib.hid (BX0.out.below b1)
  have BY1 := Lib.hid (BY0.out.below b1)
  clear c0 c1 c2 c3 c4 e0 e1 e2 e3 e4 bl bm BX0 BY0 b1
  have c0 := BX1.out.2 0 _ rfl
  have c1 := BX1.out.2 1 _ rfl
  have c2 := BX1.out.2 2 _ rfl
  have c3 := BX1.out.2 3 _ rfl
  have c4 := BX1.out.2 4 _ rfl
  have e0 := BY1.out.2 0 _ rfl
  have e1 := BY1.out.2 1 _ rfl
  have e2 := BY1.out.2 2 _ rfl
  have e3 := BY1.out.2 3 _ rfl
  have e4 := BY1.out.2 4 _ rfl
  have bl := BX1.out.1
  have bm := BY1.out.1
  have HE := Lib.hid HB1.out
  go_wp2
  go_ret
  exact ⟨rfl, HE.out⟩
set_option maxRecDepth 100000 in
set_option maxHeartbeats 4000000 in
theorem y_to_Rules (x_Win : Int) (x_Draw : Int) (x_Loss : Int) (vx_Ladder : Value) (x_Again : Bool) (d : tRules.D) (w : World) (h : RdA tRules w [.int .i64 x_Win, .int .i64 x_Draw, .int .i64 x_Loss, vx_Ladder, .bool x_Again] d) (hw : tRules.wt d ≤ 1048576) : Calls Try.prog 23 #[.agg #[.int .i64 x_Win, .int .i64 x_Draw, .int .i64 x_Loss, vx_Ladder, .bool x_Again]] w (fun e w' => ∃ vx_Ladder' : Value, e = .returned (.agg #[.int .i64 x_Win, .int .i64 x_Draw, .int .i64 x_Loss, vx_Ladder', .bool x_Again]) ∧ OwN tRules w' w.heap.size w'.heap.size [.int .i64 x_Win, .int .i64 x_Draw, .int .i64 x_Loss, vx_Ladder', .bool x_Again] d ∧ Below w.heap.size w w') := by
  have P0 : RdA tInt w [.int .i64 x_Win] d.1 := (rd_split h).1
  have Pt0 := (rd_split h).2
  have P1 : RdA tInt w [.int .i64 x_Draw] d.2.1 := (rd_split Pt0).1
  have Pt1 := (rd_split Pt0).2
  have P2 : RdA tInt w [.int .i64 x_Loss] d.2.2.1 := (rd_split Pt1).1
  have Pt2 := (rd_split Pt1).2
  have P3 : RdA tIntS w [vx_Ladder] d.2.2.2.1 := (rd_split Pt2).1
  have Pt3 := (rd_split Pt2).2
  have P4 : RdA tBool w [.bool x_Again] d.2.2.2.2 := Pt3
  clear Pt0 Pt1 Pt2 Pt3
  have HP0 := Lib.hid P0
  have HP1 := Lib.hid P1
  have HP2 := Lib.hid P2
  have HP3 := Lib.hid P3
  have HP4 := Lib.hid P4
  have hwt : tRules.wt d = (tInt.wt d.1 + (tInt.wt d.2.1 + (tInt.wt d.2.2.1 + (tIntS.wt d.2.2.2.1 + tBool.wt d.2.2.2.2)))) := rfl
  rw [hwt] at hw
  have hw3 : tIntS.wt d.2.2.2.1 ≤ 1048576 := by omega
  have HW3 := Lib.hid hw3
  clear hw hwt hw3
  have HB0 : Hid (Below w.heap.size w (((w.alloc (.cells #[.int .i64 x_Win, .int .i64 x_Draw, .int .i64 x_Loss, vx_Ladder, .bool x_Again] 25)).alloc (.cells #[.int .i64 0, .int .i64 0, .int .i64 0, .slice none 0 0, .bool false] 32)).alloc (.cells #[.int .i64 x_Win, .int .i64 x_Draw, .int .i64 x_Loss, .slice none 0 0, .bool false] 32))) := (((Below.refl _ _).alloc (Nat.le_refl _) _).alloc (by simp) _).alloc (by simp <;> omega) _
  have BX0 : Hid (BoxN (((w.alloc (.cells #[.int .i64 x_Win, .int .i64 x_Draw, .int .i64 x_Loss, vx_Ladder, .bool x_Again] 25)).alloc (.cells #[.int .i64 0, .int .i64 0, .int .i64 0, .slice none 0 0, .bool false] 32)).alloc (.cells #[.int .i64 x_Win, .int .i64 x_Draw, .int .i64 x_Loss, .slice none 0 0, .bool false] 32)) w.heap.size [.int .i64 x_Win, .int .i64 x_Draw, .int .i64 x_Loss, vx_Ladder, .bool x_Again]) := BoxN.below (BoxN.below (BoxN.made (Below.refl _ _) rfl) ((Below.refl _ _).alloc (Nat.le_refl _) _)) ((Below.refl _ _).alloc (Nat.le_refl _) _)
  have RS0 : Hid (ResAt (((w.alloc (.cells #[.int .i64 x_Win, .int .i64 x_Draw, .int .i64 x_Loss, vx_Ladder, .bool x_Again] 25)).alloc (.cells #[.int .i64 0, .int .i64 0, .int .i64 0, .slice none 0 0, .bool false] 32)).alloc (.cells #[.int .i64 x_Win, .int .i64 x_Draw, .int .i64 x_Loss, .slice none 0 0, .bool false] 32)) (w.heap.size + 1) 5) := ResAt.below (ResAt.made' (by simp) rfl) ((Below.refl _ _).alloc (Nat.le_refl _) _)
  have BO0 : Hid (BoxF (((w.alloc (.cells #[.int .i64 x_Win, .int .i64 x_Draw, .int .i64 x_Loss, vx_Ladder, .bool x_Again] 25)).alloc (.cells #[.int .i64 0, .int .i64 0, .int .i64 0, .slice none 0 0, .bool false] 32)).alloc (.cells #[.int .i64 x_Win, .int .i64 x_Draw, .int .i64 x_Loss, .slice none 0 0, .bool false] 32)) (w.heap.size + 2) [.int .i64 x_Win, .int .i64 x_Draw, .int .i64 x_Loss, .slice none 0 0, .bool false]) := BoxF.made (Below.refl _ _) (by simp)
  clear h P0 P1 P2 P3 P4
  have c0 := BX0.out.2 0 _ rfl
  have c1 := BX0.out.2 1 _ rfl
  have c2 := BX0.out.2 2 _ rfl
  have c3 := BX0.out.2 3 _ rfl
  have c4 := BX0.out.2 4 _ rfl
  have o0 := BO0.out.2 0 _ rfl
  have o1 := BO0.out.2 1 _ rfl
  have o2 := BO0.out.2 2 _ rfl
  have o3 := BO0.out.2 3 _ rfl
  have o4 := BO0.out.2 4 _ rfl
  have bl := BX0.out.1
  have bm := BO0.out.1
  have bn := RS0.out.lt
  obtain ⟨⟨z0, q0⟩, y0⟩ := RS0.out.at 0 (by omega)
  obtain ⟨⟨z1, q1⟩, y1⟩ := RS0.out.at 1 (by omega)
  obtain ⟨⟨z2, q2⟩, y2⟩ := RS0.out.at 2 (by omega)
  obtain ⟨⟨z3, q3⟩, y3⟩ := RS0.out.at 3 (by omega)
  obtain ⟨⟨z4, q4⟩, y4⟩ := RS0.out.at 4 (by omega)
  go_enter Try.func23, Try.ntmps23
  go_wp2_with fail
  clear c0 o0 q0 y0 c1 o1 q1 y1 c2 o2 q2 y2 c3 o3 q3 y3 c4 o4 q4 y4 bl bm bn
  refine (y_to_IntS vx_Ladder d.2.2.2.1 _ (RdA.below HP3.out HB0.out) HW3.out).mono ?_
  rintro e w1 ⟨u3_0, rfl, ho1, b1⟩
  have hs1 := b1.size
  have hS1 : w.heap.size + 3 ≤ w1.heap.size := by simp at hs1; omega
  have HBc1 := Lib.hid (HB0.out.trans (b1.mono HB0.out.size))
  have BXc1 := Lib.hid (BX0.out.below b1)
  have RSc1 := Lib.hid (RS0.out.below b1)
  have BOc1 := Lib.hid (BO0.out.below b1)
  have O3_c1 := Lib.hid (ho1.mono (lo' := w.heap.size + 3) (hi' := w1.heap.size) (by simp) (Nat.le_refl _) (Nat.le_refl _))
  clear HB0 BX0 RS0 BO0 hs1 b1 ho1
  obtain ⟨au3_0, nu3_0, ku3_0, hu3_0⟩ := rd_slice O3_c1.out.rd
  subst hu3_0
  have c0 := BXc1.out.2 0 _ rfl
  have c1 := BXc1.out.2 1 _ rfl
  have c2 := BXc1.out.2 2 _ rfl
  have c3 := BXc1.out.2 3 _ rfl
  have c4 := BXc1.out.2 4 _ rfl
  have o0 := BOc1.out.2 0 _ rfl
  have o1 := BOc1.out.2 1 _ rfl
  have o2 := BOc1.out.2 2 _ rfl
  have o3 := BOc1.out.2 3 _ rfl
  have o4 := BOc1.out.2 4 _ rfl
  have bl := BXc1.out.1
  have bm := BOc1.out.1
  have bn := RSc1.out.lt
  obtain ⟨⟨z0, q0⟩, y0⟩ := RSc1.out.at 0 (by omega)
  obtain ⟨⟨z1, q1⟩, y1⟩ := RSc1.out.at 1 (by omega)
  obtain ⟨⟨z2, q2⟩, y2⟩ := RSc1.out.at 2 (by omega)
  obtain ⟨⟨z3, q3⟩, y3⟩ := RSc1.out.at 3 (by omega)
  obtain ⟨⟨z4, q4⟩, y4⟩ := RSc1.out.at 4 (by omega)
  go_wp2
  (try simp only [Exit.inBlock, Exit.then])
  refine post_named fun w99 hw99 => ?_
  clear c0 o0 q0 y0 c1 o1 q1 y1 c2 o2 q2 y2 c3 o3 q3 y3 c4 o4 q4 y4 bl bm bn
  have HBs1 := Lib.hid (HBc1.out.setCell (p := ⟨w.heap.size + 2, 3, none⟩) (by simp) (.slice au3_0 nu3_0 ku3_0))
  have BXs1 := Lib.hid (BXc1.out.elsewhere (D := w.heap.size + 2) 3 (.slice au3_0 nu3_0 ku3_0) (by omega))
  have RSs1 := Lib.hid (RSc1.out.elsewhere (D := w.heap.size + 2) 3 (.slice au3_0 nu3_0 ku3_0) (by omega))
  have BOs1 := Lib.hid (BOc1.out.set 3 (.slice au3_0 nu3_0 ku3_0) (by simp))
  have O3_s1 := Lib.hid (O3_c1.out.touch ((Touch.refl (w.heap.size + 2) (w.heap.size + 3) _).setCell ⟨w.heap.size + 2, 3, none⟩ (.slice au3_0 nu3_0 ku3_0) (by simp) (by simp)) (.inr (by omega)))
  clear HBc1 BXc1 RSc1 BOc1 O3_c1
  have HBs2 := Lib.hid (HBs1.out.setCell (p := ⟨w.heap.size + 2, 4, none⟩) (by simp) (.bool x_Again))
  have BXs2 := Lib.hid (BXs1.out.elsewhere (D := w.heap.size + 2) 4 (.bool x_Again) (by omega))
  have RSs2 := Lib.hid (RSs1.out.elsewhere (D := w.heap.size + 2) 4 (.bool x_Again) (by omega))
  have BOs2 := Lib.hid (BOs1.out.set 4 (.bool x_Again) (by simp))
  have O3_s2 := Lib.hid (O3_s1.out.touch ((Touch.refl (w.heap.size + 2) (w.heap.size + 3) _).setCell ⟨w.heap.size + 2, 4, none⟩ (.bool x_Again) (by simp) (by simp)) (.inr (by omega)))
  clear HBs1 BXs1 RSs1 BOs1 O3_s1
  have HX9 := RSs2.out.put (vs := [.int .i64 x_Win, .int .i64 x_Draw, .int .i64 x_Loss, .slice au3_0 nu3_0 ku3_0, .bool x_Again]) rfl
  have HB9 := Below.putCs (C := w.heap.size) (B := w.heap.size + 1) (by omega) [.int .i64 x_Win, .int .i64 x_Draw, .int .i64 x_Loss, .slice au3_0 nu3_0 ku3_0, .bool x_Again] 0 _ _ HBs2.out
  have O3_9 := O3_s2.out.touch (Touch.putCs (lo := w.heap.size + 1) (hi := w.heap.size + 2) (B := w.heap.size + 1) (by omega) (by omega) [.int .i64 x_Win, .int .i64 x_Draw, .int .i64 x_Loss, .slice au3_0 nu3_0 ku3_0, .bool x_Again] 0 _ _ (Touch.refl _ _ _)) (.inr (by omega))
  have e99 : w99 = putCs _ (w.heap.size + 1) 0 [.int .i64 x_Win, .int .i64 x_Draw, .int .i64 x_Loss, .slice au3_0 nu3_0 ku3_0, .bool x_Again] := hw99.out
  rw [← e99] at HX9 HB9 O3_9
  clear hw99 e99
  have h9 : w1.heap.size ≤ w99.heap.size := O3_9.hi_le
  have HD : OwN tRules w99 (w.heap.size + 3) w1.heap.size [.int .i64 x_Win, .int .i64 x_Draw, .int .i64 x_Loss, .slice au3_0 nu3_0 ku3_0, .bool x_Again] (x_Win, x_Draw, x_Loss, d.2.2.2.1, x_Again) := (OwN.two (OwN.int w99 x_Win (lo := w.heap.size + 3) (hi := w.heap.size + 3) (by omega)) (OwN.two (OwN.int w99 x_Draw (lo := w.heap.size + 3) (hi := w.heap.size + 3) (by omega)) (OwN.two (OwN.int w99 x_Loss (lo := w.heap.size + 3) (hi := w.heap.size + 3) (by omega)) (OwN.two O3_9 (OwN.bool w99 x_Again (lo := w1.heap.size) (hi := w1.heap.size) (by omega)) (by omega) (by omega)) (by omega) (by omega)) (by omega) (by omega)) (by omega) (by omega))
  have hd0 : d.1 = x_Win := scalar_int HP0.out
  have hd1 : d.2.1 = x_Draw := scalar_int HP1.out
  have hd2 : d.2.2.1 = x_Loss := scalar_int HP2.out
  have hd4 : d.2.2.2.2 = x_Again := scalar_bool HP4.out
  have hdd : ((x_Win, x_Draw, x_Loss, d.2.2.2.1, x_Again) : tRules.D) = d := by
    rw [← hd0, ← hd1, ← hd2, ← hd4]
    rfl
  rw [hdd] at HD
  have HD9 := Lib.hid (HD.mono (lo' := w.heap.size) (hi' := w99.heap.size) (by omega) h9 (Nat.le_refl _))
  have HB99 := Lib.hid HB9
  have HX99 := Lib.hid HX9
  clear HB9 HX9 HD hdd hd0 hd1 hd2 hd4
  have x0 := (HX99.out.2 0 _ rfl).1
  have x1 := (HX99.out.2 1 _ rfl).1
  have x2 := (HX99.out.2 2 _ rfl).1
  have x3 := (HX99.out.2 3 _ rfl).1
  have x4 := (HX99.out.2 4 _ rfl).1
  have x_lt := HX99.out.1
  refine bodyPost_ret (v := .agg #[.int .i64 x_Win, .int .i64 x_Draw, .int .i64 x_Loss, .slice au3_0 nu3_0 ku3_0, .bool x_Again]) ?_ rfl ⟨.slice au3_0 nu3_0 ku3_0, rfl, HD9.out, HB99.out⟩
  rw [results_cell rfl]
  go_simp
def cnt_Rules (d : tRules.D) : Nat := (0 + (0 + (0 + (tIntS.mks d.2.2.2.1 + 0))))
def top_Rules (k : Int) (d : tRules.D) : tRules.D := (d.1, d.2.1, d.2.2.1, tIntS.mkd (k) d.2.2.2.1, d.2.2.2.2)
theorem form_Rules {w : World} {B : Nat → Prop} {cs : List Value} {d : tRules.D} (h : tRules.Rd w B cs d) : ∃ (x_Win : Int) (x_Draw : Int) (x_Loss : Int) (vx_Ladder : Value) (x_Again : Bool), cs = [.int .i64 x_Win, .int .i64 x_Draw, .int .i64 x_Loss, vx_Ladder, .bool x_Again] := by
  obtain ⟨c0, r0, e0, h0, t0⟩ := h
  have g0 : c0 = [.int .i64 d.1] := h0
  obtain ⟨c1, r1, e1, h1, t1⟩ := t0
  have g1 : c1 = [.int .i64 d.2.1] := h1
  obtain ⟨c2, r2, e2, h2, t2⟩ := t1
  have g2 : c2 = [.int .i64 d.2.2.1] := h2
  obtain ⟨c3, r3, e3, h3, t3⟩ := t2
  obtain ⟨vx_Ladder, _, g3, _⟩ := h3
  have h4 := t3
  have g4 : r3 = [.bool d.2.2.2.2] := h4
  exact ⟨d.1, d.2.1, d.2.2.1, vx_Ladder, d.2.2.2.2, by rw [e0, e1, e2, e3, g0, g1, g2, g3, g4]; rfl⟩
theorem cntle_Rules (d : tRules.D) : cnt_Rules d ≤ tRules.mks d := by
  have e1 : cnt_Rules d = (0 + (0 + (0 + (tIntS.mks d.2.2.2.1 + 0)))) := rfl
  have e2 : tRules.mks d = (tInt.mks d.1 + (tInt.mks d.2.1 + (tInt.mks d.2.2.1 + (tIntS.mks d.2.2.2.1 + tBool.mks d.2.2.2.2)))) := rfl
  rw [e1, e2]
  omega
end Go.Proofs.Ytakbolkdbpehoaa
set_option linter.unusedVariables false
namespace Go.Proofs.Ytakbolkdbpehoaa
open Go.RowKit

structure GameD where
  home : Int
  away : Int
  hg : Int
  ag : Int
  st : Int
instance : Inhabited GameD := ⟨⟨0, 0, 0, 0, 0⟩⟩
def GameD.cells (t : GameD) : List Value := [.int .i64 t.home, .int .i64 t.away, .int .i64 t.hg, .int .i64 t.ag, .int .i64 t.st]
def GameD.val (t : GameD) : Value := .agg #[.int .i64 t.home, .int .i64 t.away, .int .i64 t.hg, .int .i64 t.ag, .int .i64 t.st]
def GameD.fit (t : GameD) : Prop := IntFit t.home ∧ IntFit t.away ∧ IntFit t.hg ∧ IntFit t.ag ∧ IntFit t.st
theorem GameD.len (t : GameD) : t.cells.length = 5 := rfl
def GameRow (w : World) (v : Value) (n : Nat) (g : Nat → GameD) : Prop := RecRow 5 w v n fun i => (g i).cells
theorem GameRow.below {w w' : World} {B : Nat} {v : Value} {n : Nat} {g : Nat → GameD} (h : GameRow w v n g) (hb : Below B w w') (hB : w.heap.size ≤ B) : GameRow w' v n g := RecRow.below h hb hB
theorem GameRow.touch {lo hi lo' hi' : Nat} {w w' : World} {v : Value} {n : Nat} {g : Nat → GameD} (h : GameRow w v n g) (t : Touch lo hi w w') (hv : 0 < n → InW lo' hi' v) (ho : hi' ≤ lo ∨ hi ≤ lo') : GameRow w' v n g := RecRow.touch h t hv ho
theorem GameRow.form {w : World} {v : Value} {n : Nat} {g : Nat → GameD} (h : GameRow w v n g) : ∃ a cap, v = .slice a n cap ∧ n ≤ 9223372036854775807 ∧ (0 < n → ∃ b off, a = some ⟨b, off, none⟩ ∧ n ≤ cap ∧ ∀ i, i < n → CellsAt w b (off + i * 5) (g i).cells) := RecRow.form h
theorem InW.gameRow {hi : Nat} {v : Value} {w : World} {n : Nat} {g : Nat → GameD} (h : GameRow w v n g) (h0 : 0 < n) (hs : w.heap.size ≤ hi) : InW 0 hi v := RecRow.inw h h0 hs
theorem GameRow.of_owns {w : World} {base : Nat} {e : TypeId} {v : Value} {n : Nat} {xs : List Value} {g : Nat → GameD} (h : w.ownsRow base e 5 v n xs) (hn : n ≤ 9223372036854775807) (hg : RecCells 5 n xs fun i => (g i).cells) : GameRow w v n g := RecRow.of_owns h hn hg fun _ _ => Nat.le_refl _
theorem Try.infoGame : (Try.prog.info? 73).map (fun i => (i.zero, i.size, i.bytes)) = some (some (.agg #[.int .i64 0, .int .i64 0, .int .i64 0, .int .i64 0, .int .i64 0]), 5, 40) := by kernel_rfl
theorem x_sz_GameS (v : Value) (n : Nat) (g : Nat → GameD) (left : Int) (w : World) (hl0 : 0 ≤ left) (hl : left ≤ 1048576) (h : GameRow w v n g) :
    Calls Try.prog 16 #[v, .int .i64 left] w (SzPost n left w) := by
  obtain ⟨a, cap, rfl, hn, _⟩ := h.form
  clear h
  by_cases hbig : left < n
  · have g0 : decide (left - (n : Int) < 0) = true := decide_eq_true (by omega)
    go_enter Try.func16, Try.ntmps16
    go_wp2
    go_ret
    exact ⟨⟨_, rfl, .inl (by decide)⟩, Below.refl _ _⟩
  · have g0 : decide (left - (n : Int) < 0) = false := decide_eq_false (by omega)
    go_enter Try.func16, Try.ntmps16
    go_wp2
    go_ret
    exact ⟨⟨_, rfl, .inr ⟨by omega, by omega⟩⟩, Below.refl _ _⟩
theorem x_to_Game (home : Int) (away : Int) (hg : Int) (ag : Int) (st : Int) (w : World) : Calls Try.prog 42 #[.agg #[.int .i64 home, .int .i64 away, .int .i64 hg, .int .i64 ag, .int .i64 st]] w fun e w' => e = .returned (.agg #[.int .i64 home, .int .i64 away, .int .i64 hg, .int .i64 ag, .int .i64 st]) ∧ Below w.heap.size w w' := by
  go_enter Try.func42, Try.ntmps42
  go_wp2
  exact bodyPost_ret (v := .agg #[.int .i64 home, .int .i64 away, .int .i64 hg, .int .i64 ag, .int .i64 st]) (by simp [results, Try.results42, go_sem]) rfl ⟨rfl, (((Below.refl _ _).alloc (Nat.le_refl _) _).alloc (by simp) _).alloc (by simp; omega) _⟩
theorem x_eq_Game (home : Int) (away : Int) (hg : Int) (ag : Int) (st : Int) (w : World) : Calls Try.prog 49 #[.agg #[.int .i64 home, .int .i64 away, .int .i64 hg, .int .i64 ag, .int .i64 st], .agg #[.int .i64 home, .int .i64 away, .int .i64 hg, .int .i64 ag, .int .i64 st]] w fun e w' => e = .returned (.bool true) ∧ Below w.heap.size w w' := by
  go_enter Try.func49, Try.ntmps49
  go_wp2
  go_ret
  exact ⟨rfl, ((Below.refl _ _).alloc (Nat.le_refl _) _).alloc (by simp) _⟩
set_option maxHeartbeats 1000000 in
theorem x_to_GameS (v : Value) (n : Nat) (g : Nat → GameD) (w : World) (h : GameRow w v n g) (hn : n ≤ 1048576) :
    Calls Try.prog 24 #[v] w (RecMade 5 73 w n fun i => (g i).cells) := by
  obtain ⟨i0, hi, hz0, hz1, hz2⟩ := info_parts Try.infoGame
  obtain ⟨a, cap, rfl, _, hv⟩ := h.form
  have HV := Lib.hid hv
  clear hv h
  go_enter Try.func24, Try.ntmps24
  go_wp2_with (at_make; refine wpList_make_full _ rfl _ _ 33 rfl w.heap.size 73 i0 (.agg #[.int .i64 0, .int .i64 0, .int .i64 0, .int .i64 0, .int .i64 0]) 5 Try.underlying33 hi hz0 hz1 .i64 .i64 n n n rfl rfl rfl rfl (by rw [hz2]; omega) (by unfold maxLen; omega) (Nat.le_refl _) ?_; intro w1 hown hg1)
  have hb1 : Below w.heap.size w w1 := (Below.refl _ _).grown hg1 (Nat.le_refl _) (fun k hk => by cases hk)
  clear hg1
  go_loopw [4] (fun i wr => ∃ (j : Nat) (ys : List Value), j ≤ n ∧ i = .int .i64 j ∧ wr.ownsRow w.heap.size 73 5 (.slice (some ⟨w.heap.size, 0, none⟩) n n) n ys ∧
      Hid (RecCells 5 j ys fun i => (g i).cells) ∧ Below w.heap.size w wr)
    (fun i _ => n - (intOf i).toNat)
  case atStart => exact ⟨0, _, Nat.zero_le _, rfl, hown, RecCells.nil, hb1⟩
  case round =>
    obtain ⟨j, ys, hj, rfl, hown', hys, hb⟩ := hrel
    clear hown hb1
    by_cases hlt : j < n
    · obtain ⟨b, off, rfl, _, hc⟩ := HV.out (by omega)
      have hq := (hc j hlt).belowB hb (hc j hlt).1
      generalize hx : g j = x at *
      have c0 : wr.cell? ⟨b, off + j * 5, none⟩ = some (.int .i64 x.home) := hq.2 0 _ rfl
      have c1 : wr.cell? ⟨b, off + j * 5 + 1, none⟩ = some (.int .i64 x.away) := hq.2 1 _ rfl
      have c2 : wr.cell? ⟨b, off + j * 5 + 2, none⟩ = some (.int .i64 x.hg) := hq.2 2 _ rfl
      have c3 : wr.cell? ⟨b, off + j * 5 + 3, none⟩ = some (.int .i64 x.ag) := hq.2 3 _ rfl
      have c4 : wr.cell? ⟨b, off + j * 5 + 4, none⟩ = some (.int .i64 x.st) := hq.2 4 _ rfl
      have Hx := Lib.hid hx
      have hlen := hown'.1
      have HL := Lib.hid hlen
      have hsz := hb.size
      clear hc HV hx hlen hq
      go_wp2_with (go_at_call 42; refine (x_to_Game x.home x.away x.hg x.ag x.st _).mono ?_; rintro e w2 ⟨rfl, b2⟩; have hown2 := owns_below hown' b2 (Nat.le_refl _); obtain ⟨u0, e0⟩ := owns_cellR hown2 (j * 5) (by omega); have f0 := hown2.frozenAt (j * 5); obtain ⟨u1, e1⟩ := owns_cellR hown2 (j * 5 + 1) (by omega); have f1 := hown2.frozenAt (j * 5 + 1); obtain ⟨u2, e2⟩ := owns_cellR hown2 (j * 5 + 2) (by omega); have f2 := hown2.frozenAt (j * 5 + 2); obtain ⟨u3, e3⟩ := owns_cellR hown2 (j * 5 + 3) (by omega); have f3 := hown2.frozenAt (j * 5 + 3); obtain ⟨u4, e4⟩ := owns_cellR hown2 (j * 5 + 4) (by omega); have f4 := hown2.frozenAt (j * 5 + 4))
      go_roundw
      case rel =>
        have hb2 := (hb.trans (b2.mono hsz))
        exact ⟨j + 1, _, by omega, by go_num, (((((hown2.stored (j * 5) _).1.stored (j * 5 + 1) _).1.stored (j * 5 + 2) _).1.stored (j * 5 + 3) _).1.stored (j * 5 + 4) _).1, hys.out.sets (cs := x.cells) HL.out hlt (by show (g j).cells = _; rw [Hx.out]) rfl (fun _ _ => Nat.le_refl _), (((((hb2.setCell (Nat.le_refl _) _).setCell (Nat.le_refl _) _).setCell (Nat.le_refl _) _).setCell (Nat.le_refl _) _).setCell (Nat.le_refl _) _)⟩
      case measure => simp [intOf]; omega
    · obtain rfl : j = n := by omega
      go_wp2
      go_ret
      exact ⟨_, rfl, RecRow.of_owns hown' (by omega) hys.out (fun _ _ => Nat.le_refl _), ⟨_, hown'⟩, hb⟩
set_option maxHeartbeats 1000000 in
theorem x_eq_GameS (v : Value) (n : Nat) (g : Nat → GameD) (v' : Value) (w : World) (h : GameRow w v n g) (h' : GameRow w v' n g) :
    Calls Try.prog 31 #[v, v'] w fun e w' => e = .returned (.bool true) ∧ Below w.heap.size w w' := by
  obtain ⟨a, cap, rfl, hn, hv⟩ := h.form
  obtain ⟨a', cap', rfl, _, hv'⟩ := h'.form
  have HV := Lib.hid hv
  have HV' := Lib.hid hv'
  clear hv hv' h h'
  go_enter Try.func31, Try.ntmps31
  go_wp2
  go_loopw [5] (fun i wr => ∃ j : Nat, j ≤ n ∧ i = .int .i64 j ∧ Below w.heap.size w wr) (fun i _ => n - (intOf i).toNat)
  case atStart => exact ⟨0, Nat.zero_le _, rfl, Below.refl _ _⟩
  case round =>
    obtain ⟨j, hj, rfl, hb⟩ := hrel
    by_cases hlt : j < n
    · obtain ⟨b, off, rfl, hcap, hc⟩ := HV.out (by omega)
      obtain ⟨b', off', rfl, hcap', hc'⟩ := HV'.out (by omega)
      have qa := (hc j hlt).belowB hb (hc j hlt).1
      have qb := (hc' j hlt).belowB hb (hc' j hlt).1
      clear hc hc' HV HV'
      generalize g j = x at *
      have hj0 : (0 : Int) ≤ (j : Int) := by omega
      have hj1 : (j : Int) < (n : Int) := by omega
      go_wp2
      obtain ⟨S, HSd⟩ : ∃ S : World → Prop, S = fun w' => CellsAt w' b (off + j * 5) x.cells ∧ CellsAt w' b' (off' + j * 5) x.cells ∧ Below w.heap.size w w' := ⟨_, rfl⟩
      have KS : Hid (∀ wa wb, S wa → Below wa.heap.size wa wb → S wb) := by subst HSd; exact fun wa wb ⟨qa, qb, hb⟩ b0 => ⟨qa.below b0, qb.below b0, hb.trans (b0.mono hb.size)⟩
      have OS : Hid (∀ wa, S wa → CellsAt wa b (off + j * 5) x.cells ∧ CellsAt wa b' (off' + j * 5) x.cells ∧ Below w.heap.size w wa) := by subst HSd; exact fun wa h => h
      have KS0 : Hid (S wr.drew) := by subst HSd; exact (fun (b0 : Below wr.heap.size wr wr.drew) => ⟨qa.below b0, qb.below b0, hb.trans (b0.mono hb.size)⟩) (Below.refl _ _).drew
      clear HSd
      go_wp2_with fail
      refine wp_region_held_drew (S := S) (by kernel_rfl) ?_ (fun hHeld => ?_)
      · exact KS0.out
      clear KS0 qa qb hb
      refine wpAnyH_take (i := 0) (v := ?_) rfl (by kernel_rfl) (by kernel_rfl) (by kernel_rfl) (fun _ _ _ h => h) (Or.inl ⟨by rfl, ?_⟩) (by assumption) ?_
      rotate_left
      · (intro wa hSw; obtain ⟨qa, qb, hb⟩ := OS.out _ hSw; have c0 : wa.cell? ⟨b, off + j * 5, none⟩ = some (.int .i64 x.home) := qa.2 0 _ rfl; have c1 : wa.cell? ⟨b, off + j * 5 + 1, none⟩ = some (.int .i64 x.away) := qa.2 1 _ rfl; have c2 : wa.cell? ⟨b, off + j * 5 + 2, none⟩ = some (.int .i64 x.hg) := qa.2 2 _ rfl; have c3 : wa.cell? ⟨b, off + j * 5 + 3, none⟩ = some (.int .i64 x.ag) := qa.2 3 _ rfl; have c4 : wa.cell? ⟨b, off + j * 5 + 4, none⟩ = some (.int .i64 x.st) := qa.2 4 _ rfl; have d0 : wa.cell? ⟨b', off' + j * 5, none⟩ = some (.int .i64 x.home) := qb.2 0 _ rfl; have d1 : wa.cell? ⟨b', off' + j * 5 + 1, none⟩ = some (.int .i64 x.away) := qb.2 1 _ rfl; have d2 : wa.cell? ⟨b', off' + j * 5 + 2, none⟩ = some (.int .i64 x.hg) := qb.2 2 _ rfl; have d3 : wa.cell? ⟨b', off' + j * 5 + 3, none⟩ = some (.int .i64 x.ag) := qb.2 3 _ rfl; have d4 : wa.cell? ⟨b', off' + j * 5 + 4, none⟩ = some (.int .i64 x.st) := qb.2 4 _ rfl; go_simp; try with_reducible rfl)
      simp only [Act.put, List.getElem_toArray, List.getElem_cons_zero, List.setIfInBounds_toArray, List.set_cons_zero, List.set_cons_succ]
      refine wpAnyH_take (i := 1) (v := ?_) rfl (by kernel_rfl) (by kernel_rfl) (by kernel_rfl) (fun _ _ _ h => h) (Or.inl ⟨by rfl, ?_⟩) (by assumption) ?_
      rotate_left
      · (intro wa hSw; obtain ⟨qa, qb, hb⟩ := OS.out _ hSw; have c0 : wa.cell? ⟨b, off + j * 5, none⟩ = some (.int .i64 x.home) := qa.2 0 _ rfl; have c1 : wa.cell? ⟨b, off + j * 5 + 1, none⟩ = some (.int .i64 x.away) := qa.2 1 _ rfl; have c2 : wa.cell? ⟨b, off + j * 5 + 2, none⟩ = some (.int .i64 x.hg) := qa.2 2 _ rfl; have c3 : wa.cell? ⟨b, off + j * 5 + 3, none⟩ = some (.int .i64 x.ag) := qa.2 3 _ rfl; have c4 : wa.cell? ⟨b, off + j * 5 + 4, none⟩ = some (.int .i64 x.st) := qa.2 4 _ rfl; have d0 : wa.cell? ⟨b', off' + j * 5, none⟩ = some (.int .i64 x.home) := qb.2 0 _ rfl; have d1 : wa.cell? ⟨b', off' + j * 5 + 1, none⟩ = some (.int .i64 x.away) := qb.2 1 _ rfl; have d2 : wa.cell? ⟨b', off' + j * 5 + 2, none⟩ = some (.int .i64 x.hg) := qb.2 2 _ rfl; have d3 : wa.cell? ⟨b', off' + j * 5 + 3, none⟩ = some (.int .i64 x.ag) := qb.2 3 _ rfl; have d4 : wa.cell? ⟨b', off' + j * 5 + 4, none⟩ = some (.int .i64 x.st) := qb.2 4 _ rfl; go_simp; try with_reducible rfl)
      simp only [Act.put, List.getElem_toArray, List.getElem_cons_zero, List.getElem_cons_succ, List.setIfInBounds_toArray, List.set_cons_zero, List.set_cons_succ]
      refine wpAnyH_take (i := 2) (v := ?_) rfl (by kernel_rfl) (by kernel_rfl) (by kernel_rfl) (fun _ _ _ h => h) (Or.inl ⟨by rfl, ?_⟩) (by assumption) ?_
      rotate_left
      · (intro wa hSw; obtain ⟨qa, qb, hb⟩ := OS.out _ hSw; have c0 : wa.cell? ⟨b, off + j * 5, none⟩ = some (.int .i64 x.home) := qa.2 0 _ rfl; have c1 : wa.cell? ⟨b, off + j * 5 + 1, none⟩ = some (.int .i64 x.away) := qa.2 1 _ rfl; have c2 : wa.cell? ⟨b, off + j * 5 + 2, none⟩ = some (.int .i64 x.hg) := qa.2 2 _ rfl; have c3 : wa.cell? ⟨b, off + j * 5 + 3, none⟩ = some (.int .i64 x.ag) := qa.2 3 _ rfl; have c4 : wa.cell? ⟨b, off + j * 5 + 4, none⟩ = some (.int .i64 x.st) := qa.2 4 _ rfl; have d0 : wa.cell? ⟨b', off' + j * 5, none⟩ = some (.int .i64 x.home) := qb.2 0 _ rfl; have d1 : wa.cell? ⟨b', off' + j * 5 + 1, none⟩ = some (.int .i64 x.away) := qb.2 1 _ rfl; have d2 : wa.cell? ⟨b', off' + j * 5 + 2, none⟩ = some (.int .i64 x.hg) := qb.2 2 _ rfl; have d3 : wa.cell? ⟨b', off' + j * 5 + 3, none⟩ = some (.int .i64 x.ag) := qb.2 3 _ rfl; have d4 : wa.cell? ⟨b', off' + j * 5 + 4, none⟩ = some (.int .i64 x.st) := qb.2 4 _ rfl; go_simp; try with_reducible rfl)
      simp only [Act.put, List.getElem_toArray, List.getElem_cons_zero, List.getElem_cons_succ, List.setIfInBounds_toArray, List.set_cons_zero, List.set_cons_succ]
      refine wpAnyH_take (i := 3) (v := ?_) rfl (by kernel_rfl) (by kernel_rfl) (by kernel_rfl) (fun _ _ _ h => h) (Or.inl ⟨by rfl, ?_⟩) (by assumption) ?_
      rotate_left
      · (intro wa hSw; obtain ⟨qa, qb, hb⟩ := OS.out _ hSw; have c0 : wa.cell? ⟨b, off + j * 5, none⟩ = some (.int .i64 x.home) := qa.2 0 _ rfl; have c1 : wa.cell? ⟨b, off + j * 5 + 1, none⟩ = some (.int .i64 x.away) := qa.2 1 _ rfl; have c2 : wa.cell? ⟨b, off + j * 5 + 2, none⟩ = some (.int .i64 x.hg) := qa.2 2 _ rfl; have c3 : wa.cell? ⟨b, off + j * 5 + 3, none⟩ = some (.int .i64 x.ag) := qa.2 3 _ rfl; have c4 : wa.cell? ⟨b, off + j * 5 + 4, none⟩ = some (.int .i64 x.st) := qa.2 4 _ rfl; have d0 : wa.cell? ⟨b', off' + j * 5, none⟩ = some (.int .i64 x.home) := qb.2 0 _ rfl; have d1 : wa.cell? ⟨b', off' + j * 5 + 1, none⟩ = some (.int .i64 x.away) := qb.2 1 _ rfl; have d2 : wa.cell? ⟨b', off' + j * 5 + 2, none⟩ = some (.int .i64 x.hg) := qb.2 2 _ rfl; have d3 : wa.cell? ⟨b', off' + j * 5 + 3, none⟩ = some (.int .i64 x.ag) := qb.2 3 _ rfl; have d4 : wa.cell? ⟨b', off' + j * 5 + 4, none⟩ = some (.int .i64 x.st) := qb.2 4 _ rfl; go_simp; try with_reducible rfl)
      simp only [Act.put, List.getElem_toArray, List.getElem_cons_zero, List.getElem_cons_succ, List.setIfInBounds_toArray, List.set_cons_zero, List.set_cons_succ]
      refine wpAnyH_take (i := 4) (v := ?_) rfl (by kernel_rfl) (by kernel_rfl) (by kernel_rfl) (fun _ _ _ h => h) (Or.inl ⟨by rfl, ?_⟩) (by assumption) ?_
      rotate_left
      · (intro wa hSw; obtain ⟨qa, qb, hb⟩ := OS.out _ hSw; have c0 : wa.cell? ⟨b, off + j * 5, none⟩ = some (.int .i64 x.home) := qa.2 0 _ rfl; have c1 : wa.cell? ⟨b, off + j * 5 + 1, none⟩ = some (.int .i64 x.away) := qa.2 1 _ rfl; have c2 : wa.cell? ⟨b, off + j * 5 + 2, none⟩ = some (.int .i64 x.hg) := qa.2 2 _ rfl; have c3 : wa.cell? ⟨b, off + j * 5 + 3, none⟩ = some (.int .i64 x.ag) := qa.2 3 _ rfl; have c4 : wa.cell? ⟨b, off + j * 5 + 4, none⟩ = some (.int .i64 x.st) := qa.2 4 _ rfl; have d0 : wa.cell? ⟨b', off' + j * 5, none⟩ = some (.int .i64 x.home) := qb.2 0 _ rfl; have d1 : wa.cell? ⟨b', off' + j * 5 + 1, none⟩ = some (.int .i64 x.away) := qb.2 1 _ rfl; have d2 : wa.cell? ⟨b', off' + j * 5 + 2, none⟩ = some (.int .i64 x.hg) := qb.2 2 _ rfl; have d3 : wa.cell? ⟨b', off' + j * 5 + 3, none⟩ = some (.int .i64 x.ag) := qb.2 3 _ rfl; have d4 : wa.cell? ⟨b', off' + j * 5 + 4, none⟩ = some (.int .i64 x.st) := qb.2 4 _ rfl; go_simp; try with_reducible rfl)
      simp only [Act.put, List.getElem_toArray, List.getElem_cons_zero, List.getElem_cons_succ, List.setIfInBounds_toArray, List.set_cons_zero, List.set_cons_succ]
      refine wpAnyH_take (i := 5) (v := ?_) rfl (by kernel_rfl) (by kernel_rfl) (by kernel_rfl) (fun _ _ _ h => h) (Or.inl ⟨by rfl, ?_⟩) (by assumption) ?_
      rotate_left
      · (intro wa hSw; obtain ⟨qa, qb, hb⟩ := OS.out _ hSw; have c0 : wa.cell? ⟨b, off + j * 5, none⟩ = some (.int .i64 x.home) := qa.2 0 _ rfl; have c1 : wa.cell? ⟨b, off + j * 5 + 1, none⟩ = some (.int .i64 x.away) := qa.2 1 _ rfl; have c2 : wa.cell? ⟨b, off + j * 5 + 2, none⟩ = some (.int .i64 x.hg) := qa.2 2 _ rfl; have c3 : wa.cell? ⟨b, off + j * 5 + 3, none⟩ = some (.int .i64 x.ag) := qa.2 3 _ rfl; have c4 : wa.cell? ⟨b, off + j * 5 + 4, none⟩ = some (.int .i64 x.st) := qa.2 4 _ rfl; have d0 : wa.cell? ⟨b', off' + j * 5, none⟩ = some (.int .i64 x.home) := qb.2 0 _ rfl; have d1 : wa.cell? ⟨b', off' + j * 5 + 1, none⟩ = some (.int .i64 x.away) := qb.2 1 _ rfl; have d2 : wa.cell? ⟨b', off' + j * 5 + 2, none⟩ = some (.int .i64 x.hg) := qb.2 2 _ rfl; have d3 : wa.cell? ⟨b', off' + j * 5 + 3, none⟩ = some (.int .i64 x.ag) := qb.2 3 _ rfl; have d4 : wa.cell? ⟨b', off' + j * 5 + 4, none⟩ = some (.int .i64 x.st) := qb.2 4 _ rfl; go_simp; try with_reducible rfl)
      simp only [Act.put, List.getElem_toArray, List.getElem_cons_zero, List.getElem_cons_succ, List.setIfInBounds_toArray, List.set_cons_zero, List.set_cons_succ]
      refine wpAnyH_take (i := 6) (v := ?_) rfl (by kernel_rfl) (by kernel_rfl) (by kernel_rfl) (fun _ _ _ h => h) (Or.inl ⟨by rfl, ?_⟩) (by assumption) ?_
      rotate_left
      · (intro wa hSw; obtain ⟨qa, qb, hb⟩ := OS.out _ hSw; have c0 : wa.cell? ⟨b, off + j * 5, none⟩ = some (.int .i64 x.home) := qa.2 0 _ rfl; have c1 : wa.cell? ⟨b, off + j * 5 + 1, none⟩ = some (.int .i64 x.away) := qa.2 1 _ rfl; have c2 : wa.cell? ⟨b, off + j * 5 + 2, none⟩ = some (.int .i64 x.hg) := qa.2 2 _ rfl; have c3 : wa.cell? ⟨b, off + j * 5 + 3, none⟩ = some (.int .i64 x.ag) := qa.2 3 _ rfl; have c4 : wa.cell? ⟨b, off + j * 5 + 4, none⟩ = some (.int .i64 x.st) := qa.2 4 _ rfl; have d0 : wa.cell? ⟨b', off' + j * 5, none⟩ = some (.int .i64 x.home) := qb.2 0 _ rfl; have d1 : wa.cell? ⟨b', off' + j * 5 + 1, none⟩ = some (.int .i64 x.away) := qb.2 1 _ rfl; have d2 : wa.cell? ⟨b', off' + j * 5 + 2, none⟩ = some (.int .i64 x.hg) := qb.2 2 _ rfl; have d3 : wa.cell? ⟨b', off' + j * 5 + 3, none⟩ = some (.int .i64 x.ag) := qb.2 3 _ rfl; have d4 : wa.cell? ⟨b', off' + j * 5 + 4, none⟩ = some (.int .i64 x.st) := qb.2 4 _ rfl; go_simp; try with_reducible rfl)
      simp only [Act.put, List.getElem_toArray, List.getElem_cons_zero, List.getElem_cons_succ, List.setIfInBounds_toArray, List.set_cons_zero, List.set_cons_succ]
      refine wpAnyH_take (i := 7) (v := ?_) rfl (by kernel_rfl) (by kernel_rfl) (by kernel_rfl) (fun _ _ _ h => h) (Or.inl ⟨by rfl, ?_⟩) (by assumption) ?_
      rotate_left
      · (intro wa hSw; obtain ⟨qa, qb, hb⟩ := OS.out _ hSw; have c0 : wa.cell? ⟨b, off + j * 5, none⟩ = some (.int .i64 x.home) := qa.2 0 _ rfl; have c1 : wa.cell? ⟨b, off + j * 5 + 1, none⟩ = some (.int .i64 x.away) := qa.2 1 _ rfl; have c2 : wa.cell? ⟨b, off + j * 5 + 2, none⟩ = some (.int .i64 x.hg) := qa.2 2 _ rfl; have c3 : wa.cell? ⟨b, off + j * 5 + 3, none⟩ = some (.int .i64 x.ag) := qa.2 3 _ rfl; have c4 : wa.cell? ⟨b, off + j * 5 + 4, none⟩ = some (.int .i64 x.st) := qa.2 4 _ rfl; have d0 : wa.cell? ⟨b', off' + j * 5, none⟩ = some (.int .i64 x.home) := qb.2 0 _ rfl; have d1 : wa.cell? ⟨b', off' + j * 5 + 1, none⟩ = some (.int .i64 x.away) := qb.2 1 _ rfl; have d2 : wa.cell? ⟨b', off' + j * 5 + 2, none⟩ = some (.int .i64 x.hg) := qb.2 2 _ rfl; have d3 : wa.cell? ⟨b', off' + j * 5 + 3, none⟩ = some (.int .i64 x.ag) := qb.2 3 _ rfl; have d4 : wa.cell? ⟨b', off' + j * 5 + 4, none⟩ = some (.int .i64 x.st) := qb.2 4 _ rfl; go_simp; try with_reducible rfl)
      simp only [Act.put, List.getElem_toArray, List.getElem_cons_zero, List.getElem_cons_succ, List.setIfInBounds_toArray, List.set_cons_zero, List.set_cons_succ]
      refine wpAnyH_ready (rs := [8]) (by kernel_rfl) (by simp) ?_
      refine AllReadyH.cons (o := _) rfl (fun K hK => ?_) AllReadyH.nil
      go_simp
      obtain ⟨qa, qb, hb⟩ := OS.out _ hHeld
      refine (x_eq_Game x.home x.away x.hg x.ag x.st _).mono ?_
      rintro e w101 ⟨rfl, b101⟩
      clear qa qb hb
      (try go_wp2_with fail)
      refine hK.out _ _ ?_ (fun hHeld101 => ?_)
      · exact KS.out _ _ hHeld b101
      clear hK K
      refine wpAnyH_take (i := 9) (v := ?_) rfl (by kernel_rfl) (by kernel_rfl) (by kernel_rfl) (fun _ _ _ h => h) (Or.inl ⟨by rfl, ?_⟩) (by assumption) ?_
      rotate_left
      · (intro wa hSw; obtain ⟨qa, qb, hb⟩ := OS.out _ hSw; have c0 : wa.cell? ⟨b, off + j * 5, none⟩ = some (.int .i64 x.home) := qa.2 0 _ rfl; have c1 : wa.cell? ⟨b, off + j * 5 + 1, none⟩ = some (.int .i64 x.away) := qa.2 1 _ rfl; have c2 : wa.cell? ⟨b, off + j * 5 + 2, none⟩ = some (.int .i64 x.hg) := qa.2 2 _ rfl; have c3 : wa.cell? ⟨b, off + j * 5 + 3, none⟩ = some (.int .i64 x.ag) := qa.2 3 _ rfl; have c4 : wa.cell? ⟨b, off + j * 5 + 4, none⟩ = some (.int .i64 x.st) := qa.2 4 _ rfl; have d0 : wa.cell? ⟨b', off' + j * 5, none⟩ = some (.int .i64 x.home) := qb.2 0 _ rfl; have d1 : wa.cell? ⟨b', off' + j * 5 + 1, none⟩ = some (.int .i64 x.away) := qb.2 1 _ rfl; have d2 : wa.cell? ⟨b', off' + j * 5 + 2, none⟩ = some (.int .i64 x.hg) := qb.2 2 _ rfl; have d3 : wa.cell? ⟨b', off' + j * 5 + 3, none⟩ = some (.int .i64 x.ag) := qb.2 3 _ rfl; have d4 : wa.cell? ⟨b', off' + j * 5 + 4, none⟩ = some (.int .i64 x.st) := qb.2 4 _ rfl; go_simp; try with_reducible rfl)
      simp only [Act.put, List.getElem_toArray, List.getElem_cons_zero, List.getElem_cons_succ, List.setIfInBounds_toArray, List.set_cons_zero, List.set_cons_succ]
      refine wpAnyH_done (by kernel_rfl) ?_ _
      obtain ⟨qa, qb, hb⟩ := OS.out _ hHeld101
      clear KS OS hHeld hHeld101
      go_wp2
      go_roundw
      case rel => exact ⟨j + 1, by omega, by go_num, hb⟩
      case measure => simp [intOf]; omega
    · go_wp2
      go_ret
      exact ⟨rfl, hb⟩
def gameMk (k : Int) (i : Nat) : GameD := ⟨k + 5 * (i : Int), k + 5 * (i : Int) + 1, k + 5 * (i : Int) + 1 + 1, k + 5 * (i : Int) + 1 + 1 + 1, k + 5 * (i : Int) + 1 + 1 + 1 + 1⟩
theorem tgrownGame {a b c : World} {row : Option Nat} (h : a.grownBy b row) (k : b.grownBy c row) : a.grownBy c row :=
  ⟨k.os.trans h.os, k.tape.trans h.tape, k.output.trans h.output, Nat.le_trans h.size k.size, fun i hi hne => (k.block i (Nat.lt_of_lt_of_le hi h.size) hne).trans (h.block i hi hne)⟩
section
open Go.ChangeShapes Go.WideShapes
variable {H : Type} {enc : TypeId × Value → H} {P : Program} {w : World} {base : Nat} {spare : Nat → Bool} {held : Bool}
theorem open_games {t e : TypeId} {f0 f1 f2 f3 f4 : Field} {v : Value} (ht : P.underlying t = some (.slice e)) (he : P.underlying e = some (.struct #[f0, f1, f2, f3, f4]))
    (ce : P.cellsOf e = 5) (o0 : f0.offset = 0) (c0 : P.cellsOf f0.type = 1) (u0 : P.underlying f0.type = some (.int .i64)) (o1 : f1.offset = 1) (c1 : P.cellsOf f1.type = 1) (u1 : P.underlying f1.type = some (.int .i64)) (o2 : f2.offset = 2) (c2 : P.cellsOf f2.type = 1) (u2 : P.underlying f2.type = some (.int .i64)) (o3 : f3.offset = 3) (c3 : P.cellsOf f3.type = 1) (u3 : P.underlying f3.type = some (.int .i64)) (o4 : f4.offset = 4) (c4 : P.cellsOf f4.type = 1) (u4 : P.underlying f4.type = some (.int .i64))
    (h : ∃ (fuel : Nat) (x : DataW H × List MemPlace), DataW.trod enc P w base spare held fuel t [v] = some x) : ∃ (n : Nat) (g : Nat → GameD), GameRow w v n g ∧ (∀ i, (g i).fit) ∧ n ≤ 9223372036854775807 := by
  obtain ⟨fuel, x, h⟩ := h
  have hz : (default : GameD).fit := by simp [GameD.fit, IntFit, default]
  rcases Go.Deep.open_slice ht h with ⟨h0, _⟩ | ⟨a, len, cap, m, q, D, Pl, h0, hb, hl, hm, hmm, rfl, hx⟩
  · simp only [List.cons.injEq, and_true] at h0
    subst h0
    exact ⟨0, fun _ => default, .inl ⟨_, _, rfl, rfl⟩, fun _ => hz, by omega⟩
  simp only [List.cons.injEq, and_true] at h0
  subst h0
  have hlm : len ≤ m := by rw [hmm]; split <;> omega
  have each : ∀ i, i < len → ∃ q : GameD, (∀ j u, q.cells[j]? = some u → w.cell? ((a.add (i * 5)).add j) = some u) ∧ q.fit := by
    intro i hi
    obtain ⟨cs', h1, h2⟩ := hx i (by omega)
    rw [ce] at h1
    obtain ⟨_, hlen, hcell⟩ := World.cells?_some h1
    obtain ⟨xs, kk, hk, hxy, _, hxl, hf⟩ := DataW.trod_struct he h2
    match xs, hxl, cs', hlen with
    | [y0, y1, y2, y3, y4], _, [v0, v1, v2, v3, v4], _ =>
      have g0 := hf 0 f0 rfl
      simp [o0, c0] at g0
      obtain ⟨z0, e0, _, k0⟩ := DataW.trod_int u0 g0
      simp only [List.cons.injEq, and_true] at e0
      subst e0
      have g1 := hf 1 f1 rfl
      simp [o1, c1] at g1
      obtain ⟨z1, e1, _, k1⟩ := DataW.trod_int u1 g1
      simp only [List.cons.injEq, and_true] at e1
      subst e1
      have g2 := hf 2 f2 rfl
      simp [o2, c2] at g2
      obtain ⟨z2, e2, _, k2⟩ := DataW.trod_int u2 g2
      simp only [List.cons.injEq, and_true] at e2
      subst e2
      have g3 := hf 3 f3 rfl
      simp [o3, c3] at g3
      obtain ⟨z3, e3, _, k3⟩ := DataW.trod_int u3 g3
      simp only [List.cons.injEq, and_true] at e3
      subst e3
      have g4 := hf 4 f4 rfl
      simp [o4, c4] at g4
      obtain ⟨z4, e4, _, k4⟩ := DataW.trod_int u4 g4
      simp only [List.cons.injEq, and_true] at e4
      subst e4
      refine ⟨⟨z0, z1, z2, z3, z4⟩, fun j u hu => ?_, ⟨intFit_of k0, intFit_of k1, intFit_of k2, intFit_of k3, intFit_of k4⟩⟩
      have hj : j < 5 := (List.getElem?_eq_some_iff.1 hu).1
      rw [hcell j hj]
      exact hu
  obtain ⟨g, hg⟩ := Go.Deep.choose_lt each
  have hfit : ∀ i, (if i < len then g i else default : GameD).fit := fun i => by
    by_cases hi : i < len
    · simpa [hi] using (hg i hi).2
    · simpa [hi] using hz
  unfold maxLen at hm
  refine ⟨len, fun i => if i < len then g i else default, ?_, hfit, by omega⟩
  by_cases h0 : len = 0
  · subst h0; exact .inl ⟨_, _, rfl, rfl⟩
  · have hc0 := (hg 0 (by omega)).1 0 _ rfl
    obtain ⟨b, off, spot⟩ := a
    have hspot : spot = none := by simpa [Addr.add] using World.cell?_spot hc0
    subst hspot
    have hadd : ∀ j, (⟨b, off, none⟩ : Addr).add j = ⟨b, off + j, none⟩ := fun j => by unfold Addr.add; split <;> simp_all
    have hadd2 : ∀ o j, (⟨b, o, none⟩ : Addr).add j = ⟨b, o + j, none⟩ := fun o j => by unfold Addr.add; split <;> simp_all
    simp only [hadd, hadd2] at hc0
    refine .inr ⟨b, off, cap, rfl, by omega, by omega, fun i hi => ⟨World.block_lt_of_cell? w _ hc0, fun j u hu => ?_⟩, hl⟩
    have := (hg i hi).1
    simp only [hadd, hadd2] at this
    simp only [hi, if_true] at hu
    exact this j u hu
end
section
open Go.ChangeShapes Go.WideShapes
variable {H : Type} {enc : TypeId × Value → H} {P : Program} {w : World} {base : Nat} {spare : Nat → Bool} {held : Bool}
theorem open_game {r : Reach} {b0 : Nat} {e : TypeId} {f0 f1 f2 f3 f4 : Field} {v : Value} {d : DataW H} {pl : List MemPlace} (he : P.underlying e = some (.struct #[f0, f1, f2, f3, f4]))
    (ce : P.cellsOf e = 5) (o0 : f0.offset = 0) (c0 : P.cellsOf f0.type = 1) (u0 : P.underlying f0.type = some (.int .i64)) (o1 : f1.offset = 1) (c1 : P.cellsOf f1.type = 1) (u1 : P.underlying f1.type = some (.int .i64)) (o2 : f2.offset = 2) (c2 : P.cellsOf f2.type = 1) (u2 : P.underlying f2.type = some (.int .i64)) (o3 : f3.offset = 3) (c3 : P.cellsOf f3.type = 1) (u3 : P.underlying f3.type = some (.int .i64)) (o4 : f4.offset = 4) (c4 : P.cellsOf f4.type = 1) (u4 : P.underlying f4.type = some (.int .i64))
    (hv : Value.okWide P w r b0 e v) (h : DataW.Trod enc P w base spare held e v d pl) : ∃ q : GameD, v = q.val ∧ q.fit := by
  obtain ⟨cs, rfl, hsz⟩ := okWide_struct he hv
  obtain ⟨l⟩ := cs
  obtain ⟨fuel, h⟩ := h
  obtain ⟨xs, kk, hk, hxy, _, hxl, hf⟩ := DataW.trod_struct he h
  match xs, hxl, l, hsz.trans ce with
  | [y0, y1, y2, y3, y4], _, [v0, v1, v2, v3, v4], _ =>
      have g0 := hf 0 f0 rfl
      simp [Value.cells, o0, c0] at g0
      obtain ⟨z0, e0, _, k0⟩ := DataW.trod_int u0 g0
      simp only [List.cons.injEq, and_true] at e0
      subst e0
      have g1 := hf 1 f1 rfl
      simp [Value.cells, o1, c1] at g1
      obtain ⟨z1, e1, _, k1⟩ := DataW.trod_int u1 g1
      simp only [List.cons.injEq, and_true] at e1
      subst e1
      have g2 := hf 2 f2 rfl
      simp [Value.cells, o2, c2] at g2
      obtain ⟨z2, e2, _, k2⟩ := DataW.trod_int u2 g2
      simp only [List.cons.injEq, and_true] at e2
      subst e2
      have g3 := hf 3 f3 rfl
      simp [Value.cells, o3, c3] at g3
      obtain ⟨z3, e3, _, k3⟩ := DataW.trod_int u3 g3
      simp only [List.cons.injEq, and_true] at e3
      subst e3
      have g4 := hf 4 f4 rfl
      simp [Value.cells, o4, c4] at g4
      obtain ⟨z4, e4, _, k4⟩ := DataW.trod_int u4 g4
      simp only [List.cons.injEq, and_true] at e4
      subst e4
      exact ⟨⟨z0, z1, z2, z3, z4⟩, rfl, ⟨intFit_of k0, intFit_of k1, intFit_of k2, intFit_of k3, intFit_of k4⟩⟩
end
end Go.Proofs.Ytakbolkdbpehoaa
set_option linter.unusedVariables false
namespace Go.Proofs.Ytakbolkdbpehoaa
open Go.RowKit

def tGame : Ty := tTwo tInt (tTwo tInt (tTwo tInt (tTwo tInt tInt)))
def tGameS : Ty := tSl 73 tGame
theorem opens_Game : Opens Try.prog 78 tGame := opens_struct Try.underlying78 (by kernel_rfl) ⟨rfl, _, _, rfl, (opens_int Try.underlying3 (by kernel_rfl)), ⟨rfl, _, _, rfl, (opens_int Try.underlying3 (by kernel_rfl)), ⟨rfl, _, _, rfl, (opens_int Try.underlying3 (by kernel_rfl)), ⟨rfl, _, _, rfl, (opens_int Try.underlying3 (by kernel_rfl)), ⟨rfl, (opens_int Try.underlying3 (by kernel_rfl))⟩⟩⟩⟩⟩
theorem opens_GameS : Opens Try.prog 26 tGameS := opens_sl Try.underlying26 (by kernel_rfl) opens_Game
def ofGame (x : tGame.D) : GameD := ⟨x.1, x.2.1, x.2.2.1, x.2.2.2.1, x.2.2.2.2⟩
def atGame (d : List tGame.D) (i : Nat) : GameD := ((d[i]?).map ofGame).getD default
theorem flat_Game : FlatT tGame fun x => (ofGame x).cells := (flat_two flat_int (flat_two flat_int (flat_two flat_int (flat_two flat_int flat_int))))
theorem cells_Game {d : List tGame.D} {i : Nat} (hi : i < d.length) : cellsAt (fun x => (ofGame x).cells) d i = (atGame d i).cells := by
  refine (cellsAt_lt (List.getElem?_eq_getElem hi)).trans ?_
  unfold atGame; rw [List.getElem?_eq_getElem hi]; rfl
theorem rd_GameS {w : World} {v : Value} {d : List tGame.D} : RdA tGameS w [v] d ↔ GameRow w v d.length (atGame d) := by
  have e := fun i (hi : i < d.length) => cells_Game hi
  exact flat_Game.rdA.trans ⟨fun h => RecRow.congr h e, fun h => RecRow.congr h fun i hi => (e i hi).symm⟩
theorem rdN_GameS {w : World} {lo hi : Nat} {v : Value} {d : List tGame.D} (h : GameRow w v d.length (atGame d)) (hi2 : InW lo hi v) : RdN tGameS w lo hi [v] d :=
  flat_Game.reads (flat_Game.row (rd_GameS.2 h)) fun _ q hq => hi2 q hq
theorem wt_GameS (d : List tGame.D) : tGameS.wt d = d.length := by
  show d.length + (d.map tGame.wt).sum = d.length
  have := sum_zero (f := tGame.wt) (fun _ => rfl) d
  omega
theorem mks_GameS (d : List tGame.D) : tGameS.mks d = 5 * d.length := sum_const (f := tGame.mks) (fun _ => rfl) d
theorem mkl_GameS (d : List tGame.D) (k : Int) : List.length (α := tGame.D) (tGameS.mkd k d) = d.length := mkList_len _ _ _ _
theorem mk_GameS (d : List tGame.D) (k : Int) (i : Nat) (hi : i < d.length) : atGame (tGameS.mkd k d) i = gameMk k i := by
  have h := mkList_get (mks := tGame.mks) (mkd := tGame.mkd) (m := 5) (fun _ => rfl) d k i
  have h2 : (mkList tGame.mks tGame.mkd k d)[i]? = some (tGame.mkd (k + ((5 : Nat) : Int) * i) d[i]) := by
    rw [h, List.getElem?_eq_getElem hi]; rfl
  unfold atGame
  refine (congrArg (fun o => (Option.map ofGame o).getD default) h2).trans ?_
  rfl
/-- made by the program: a row that the call owns -/
theorem own_GameS {w : World} {lo hi : Nat} {v : Value} {d : List tGame.D} {xs : List Value} (h : w.ownsRow lo 73 5 v d.length xs) (hr : GameRow w v d.length (atGame d)) (h1 : ∀ q, v.ownBlock = some q → q < hi) (hh : hi ≤ w.heap.size) : OwN tGameS w lo hi [v] d :=
  flat_Game.made h (rd_GameS.2 hr) h1 hh
theorem y_sz_GameS (v : Value) (d : List tGame.D) (left : Int) (w : World) (hl0 : 0 ≤ left) (hl : left ≤ 1048576) (h : RdA tGameS w [v] d) : Calls Try.prog 16 #[v, .int .i64 left] w (SzT tGameS d left w) :=
  (x_sz_GameS v d.length (atGame d) left w hl0 hl (rd_GameS.1 h)).mono fun e w' ⟨⟨r, he, hr⟩, hb⟩ => ⟨⟨r, he, by rw [wt_GameS]; exact hr⟩, hb⟩
theorem y_to_GameS (v : Value) (d : List tGame.D) (w : World) (h : RdA tGameS w [v] d) (hw : tGameS.wt d ≤ 1048576) : Calls Try.prog 24 #[v] w (MadeT tGameS d w) :=
  (x_to_GameS v d.length (atGame d) w (rd_GameS.1 h) (by rw [wt_GameS] at hw; exact hw)).mono fun e w' ⟨v', he, hr, ⟨xs, ho⟩, hb⟩ => ⟨v', he, flat_Game.made ho (rd_GameS.2 hr) (fun q hq => (ho.lt q hq).2) (Nat.le_refl _), hb⟩
theorem y_eq_GameS (v v' : Value) (d : List tGame.D) (w : World) (h : RdA tGameS w [v] d) (h' : RdA tGameS w [v'] d) : Calls Try.prog 31 #[v, v'] w fun e w' => e = .returned (.bool true) ∧ Below w.heap.size w w' :=
  x_eq_GameS v d.length (atGame d) v' w (rd_GameS.1 h) (rd_GameS.1 h')
end Go.Proofs.Ytakbolkdbpehoaa
