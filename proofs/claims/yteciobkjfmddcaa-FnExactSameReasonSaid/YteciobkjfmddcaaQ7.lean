/-
  Packed: Find, Reason, Steps, RsnTy, SameRules, SameRsn.
-/
import Derived.Deep.RegionHeld3
import Derived.Deep.RegionWith
import Derived.Test.YteciobkjfmddcaaQ1
import Derived.Test.YteciobkjfmddcaaQ2
import Derived.Test.YteciobkjfmddcaaQ3
import Derived.Test.YteciobkjfmddcaaQ4
import Derived.Test.YteciobkjfmddcaaQ6
set_option linter.unusedVariables false
namespace Go.Proofs.Yteciobkjfmddcaa
open Go.RowKit

def RsnD.vals (r : RsnD) (v : Value) : Array Value := #[.int .i64 r.key, v, .int .i64 r.first, .int .i64 r.other]
/-- a reason, and whether there is one -/
def ReasonL (w : World) (r : Option RsnD) (e : Ending) (w' : World) : Prop :=
  ∃ v, e = .returned (.tuple #[.agg ((r.getD rsn0).vals v), .bool r.isSome]) ∧ w'.ownsRow w.heap.size 3 1 v (r.getD rsn0).grp.length ((r.getD rsn0).grp.map (Value.int .i64)) ∧ Below w.heap.size w w'
theorem put_cell {B : Nat} {p : Addr} {v : Value} (hp : p.block ≠ B) : ∀ (vs : List Value) (o : Nat) (w : World), w.cell? p = some v → (putCs w B o vs).cell? p = some v
  | [], _, _, h => h
  | u :: vs, o, w, h => put_cell hp vs (o + 1) _ ((World.cell?_of_block (w := w) (w' := w.setCell ⟨B, o, none⟩ u) (a := p) (Below.heap_setCell w ⟨B, o, none⟩ u p.block hp)).trans h)
theorem BkAt.put {w0 : World} {B C : Nat} {fa : Option Addr} {fc : Nat} {la : Option Addr} {lc : Nat} {ga : Option Addr} {gc : Nat} {qa : Option Addr} {qc : Nat} {ta : Option Addr} {tc : Nat} {b : BookD} (hC : B ≠ C) (h0 : w0.heap.size ≤ C) :
    ∀ (vs : List Value) (o : Nat) (w : World), BkAt w0 w B fa fc la lc ga gc qa qc ta tc b → BkAt w0 (putCs w C o vs) B fa fc la lc ga gc qa qc ta tc b
  | [], _, _, h => h
  | u :: vs, o, w, h => BkAt.put hC h0 vs (o + 1) _ (h.store (p := ⟨C, o, none⟩) hC h0 u)
theorem owns_puts {w : World} {base B : Nat} {e : TypeId} {size n : Nat} {v : Value} {xs : List Value} (hB : B < base) : ∀ (vs : List Value) (o : Nat) (w : World), w.ownsRow base e size v n xs → (putCs w B o vs).ownsRow base e size v n xs
  | [], _, _, h => h
  | u :: vs, o, w, h => owns_puts (w := w) hB vs (o + 1) _ (owns_low h o u hB)
theorem valsL_get {V : Nat → Int} {k n : Nat} (h : k < n) : getI (valsL V n) k = V k := by unfold valsL getI; simp [h]
theorem valsL_len {V : Nat → Int} {n : Nat} : (valsL V n).length = n := by unfold valsL; simp
end Go.Proofs.Yteciobkjfmddcaa
set_option linter.unusedVariables false
namespace Go.Proofs.Yteciobkjfmddcaa
open Go.RowKit

def pairP (b : BookD) (x y : Int) : Prop := bookP b ∧ (0 ≤ x ∧ x ≤ (b.nf : Int) - 1) ∧ (0 ≤ y ∧ y ≤ (b.nf : Int) - 1) ∧ x ≠ y
/-- a reason that speaks for the first team -/
def aboveB : Option RsnD → Bool
  | none => false
  | some r => decide (r.other < r.first)
set_option maxRecDepth 100000 in
set_option maxHeartbeats 2000000 in
theorem sameReason_spec (k f o k' f' o' : Int) (v v' : Value) (n n' : Nat) (g g' : Nat → Int) (R : Bool) (w : World) (hR : R = true ↔ (k = k' ∧ f = f' ∧ o = o' ∧ n = n' ∧ ∀ i, i < n → g i = g' i)) (h : IntRow w v n g) (h' : IntRow w v' n' g') :
    Calls Try.prog 5 #[.agg #[.int .i64 k, v, .int .i64 f, .int .i64 o], .agg #[.int .i64 k', v', .int .i64 f', .int .i64 o']] w fun e w' => e = .returned (.bool R) ∧ Below w.heap.size w w' := by
  obtain ⟨va, vc, rfl, hv63, _⟩ := h.form
  obtain ⟨va', vc', rfl, hv63', _⟩ := h'.form
  have ba := (Below.refl w.heap.size w).alloc (Nat.le_refl _) (.cells #[.int .i64 k, .slice va n vc, .int .i64 f, .int .i64 o] 27)
  have bb := (Below.refl (w.alloc (.cells #[.int .i64 k, .slice va n vc, .int .i64 f, .int .i64 o] 27)).heap.size (w.alloc (.cells #[.int .i64 k, .slice va n vc, .int .i64 f, .int .i64 o] 27))).alloc (Nat.le_refl _) (.cells #[.int .i64 k', .slice va' n' vc', .int .i64 f', .int .i64 o'] 27)
  have B1 := Lib.hid ((BoxN.made (Below.refl _ (w.alloc (.cells #[.int .i64 k, .slice va n vc, .int .i64 f, .int .i64 o] 27))) (B := w.heap.size) rfl).below bb)
  have B2 := Lib.hid (BoxN.made (Below.refl _ ((w.alloc (.cells #[.int .i64 k, .slice va n vc, .int .i64 f, .int .i64 o] 27)).alloc (.cells #[.int .i64 k', .slice va' n' vc', .int .i64 f', .int .i64 o'] 27))) (B := w.heap.size + 1) (by simp))
  have HB := Lib.hid (ba.trans (bb.mono ba.size))
  obtain ⟨U, hU⟩ : ∃ U, (w.alloc (.cells #[.int .i64 k, .slice va n vc, .int .i64 f, .int .i64 o] 27)).alloc (.cells #[.int .i64 k', .slice va' n' vc', .int .i64 f', .int .i64 o'] 27) = U := ⟨_, rfl⟩
  rw [hU] at B1 B2 HB
  have G1 := Lib.hid (h.below HB.out (Nat.le_refl _))
  have G2 := Lib.hid (h'.below HB.out (Nat.le_refl _))
  clear ba bb h h'
  have hlt1 := B1.out.1
  have hlt2 := B2.out.1
  have d0 := B1.out.2 0 _ rfl
  have d1 := B1.out.2 1 _ rfl
  have d2 := B1.out.2 2 _ rfl
  have d3 := B1.out.2 3 _ rfl
  have e0 := B2.out.2 0 _ rfl
  have e1 := B2.out.2 1 _ rfl
  have e2 := B2.out.2 2 _ rfl
  have e3 := B2.out.2 3 _ rfl
  have HN := Lib.hid (boolF hR)
  have HY := Lib.hid (boolT hR)
  clear hR
  go_enter Try.func5, Try.ntmps5
  by_cases hk : k = k'
  case neg =>
    obtain rfl := HN.out (fun h => hk h.1)
    have g1 : (k == k') = false := beq_eq_false_iff_ne.2 hk
    go_wp2
    go_ret
    exact ⟨rfl, HB.out⟩
  subst hk
  by_cases hf : f = f'
  case neg =>
    obtain rfl := HN.out (fun h => hf h.2.1)
    have g2 : (f == f') = false := beq_eq_false_iff_ne.2 hf
    go_wp2
    go_ret
    exact ⟨rfl, HB.out⟩
  subst hf
  by_cases ho : o = o'
  case neg =>
    obtain rfl := HN.out (fun h => ho h.2.2.1)
    have g3 : (o == o') = false := beq_eq_false_iff_ne.2 ho
    go_wp2
    go_ret
    exact ⟨rfl, HB.out⟩
  subst ho
  by_cases hn : n = n'
  case neg =>
    obtain rfl := HN.out (fun h => hn h.2.2.2.1)
    have g4 : ((n : Int) == n') = false := beq_eq_false_iff_ne.2 (by omega)
    have g5 : (n == n') = false := beq_eq_false_iff_ne.2 hn
    go_wp2
    go_ret
    exact ⟨rfl, HB.out⟩
  subst hn
  go_wp2
  clear hU
  go_loop [38] (fun iv => ∃ i : Nat, i ≤ n ∧ iv = .int .i64 i ∧ Hid (∀ j, j < i → g j = g' j)) (fun iv => n - (RowKit.intOf iv).toNat)
  case atStart => exact ⟨0, Nat.zero_le _, rfl, fun j hj => absurd hj (Nat.not_lt_zero _)⟩
  case round =>
    obtain ⟨i, hi9, rfl, HE⟩ := hrel
    by_cases hlt : i < n
    · obtain ⟨ob, oo, rfl, hcap, q0⟩ := int_at G1.out hlt
      obtain ⟨xb, xo, rfl, hxcap, q1⟩ := int_at G2.out hlt
      have hj1 : (i : Int) < (n : Int) := by omega
      by_cases hgg : g i = g' i
      · have g6 : (g i == g' i) = true := beq_iff_eq.2 hgg
        have HE2 : Hid (∀ j, j < i + 1 → g j = g' j) := fun j hj => by
          by_cases hji : j = i
          · rw [hji]; exact hgg
          · exact HE.out j (by omega)
        clear hgg HE
        generalize g i = gi at *
        generalize g' i = gi' at *
        go_wp2
        go_round
        case rel => exact ⟨i + 1, by omega, by go_num, HE2⟩
        case measure => simp [RowKit.intOf]; omega
      · have g6 : (g i == g' i) = false := beq_eq_false_iff_ne.2 hgg
        obtain rfl := HN.out (fun h => hgg (h.2.2.2.2 i hlt))
        clear hgg HE HN HY
        generalize g i = gi at *
        generalize g' i = gi' at *
        go_wp2
        go_ret
        exact ⟨rfl, HB.out⟩
    obtain rfl : i = n := by omega
    obtain rfl := HY.out ⟨(by first | rfl | trivial), (by first | rfl | trivial), (by first | rfl | trivial), (by first | rfl | trivial), HE.out⟩
    go_wp2
    go_ret
    exact ⟨rfl, HB.out⟩
end Go.Proofs.Yteciobkjfmddcaa
set_option linter.unusedVariables false
namespace Go.Proofs.Yteciobkjfmddcaa
open Go.RowKit

/-- ints at the end of a list of the caller's own -/
def StepsL (B : Nat) (vo : Value) (w : World) (L : List Int) (e : Ending) (w' : World) : Prop :=
  ∃ v, e = .returned v ∧ w'.ownsRow B 3 1 v L.length (L.map (Value.int .i64)) ∧ ∀ C, C ≤ w.heap.size → (∀ q, vo.ownBlock = some q → C ≤ q) → Below C w w'
theorem BkAt.grow {w0 w w' : World} {B : Nat} {fa : Option Addr} {fc : Nat} {la : Option Addr} {lc : Nat} {ga : Option Addr} {gc : Nat} {qa : Option Addr} {qc : Nat} {ta : Option Addr} {tc : Nat} {b : BookD} {row : Option Nat}
    (h : BkAt w0 w B fa fc la lc ga gc qa qc ta tc b) (hg : w.grownBy w' row) (hq : ∀ q, row = some q → q ≠ B ∧ w0.heap.size ≤ q) : BkAt w0 w' B fa fc la lc ga gc qa qc ta tc b :=
  ⟨⟨Nat.lt_of_lt_of_le h.box.1 hg.size, fun j v hj => hg.cell (h.box.2 j v hj) (fun e => (hq B e.symm).1 rfl)⟩, h.row0, h.bel.grown hg h.bel.size (fun k e => (hq k e).2)⟩
theorem box_low {w w' : World} {B base : Nat} {cs : List Value} (h : BoxN w B cs) (hb : Below base w w') (hB : B < base) : BoxN w' B cs :=
  ⟨Nat.lt_of_lt_of_le h.1 hb.size, fun j v hj => (Below.cell hb (p := ⟨B, j, none⟩) hB).trans (h.2 j v hj)⟩
theorem hit_one {t : Int} {p : List Int} (h : ¬ t ∈ p) : ¬ (t ∈ p ∨ t ∈ p) := fun e => e.elim h h
end Go.Proofs.Yteciobkjfmddcaa
set_option linter.unusedVariables false
namespace Go.Proofs.Yteciobkjfmddcaa
open Go.RowKit

theorem own_one {T : Ty} {w : World} {lo hi : Nat} {c : Value} {d : T.D} (h : T.Ow w lo [c] d []) (hh : hi ≤ w.heap.size) : OwN T w lo hi [c] d := ⟨[], h, List.nodup_nil, (fun q hq => by cases hq), hh⟩
theorem own_reason {w : World} {lo hi : Nat} {k f o : Int} {v : Value} {G : List Int} (h : OwN tIntS w lo hi [v] G) (hl : lo ≤ hi) : OwN tReason w lo hi [.int .i64 k, v, .int .i64 f, .int .i64 o] (k, G, f, o) := by
  have hh : hi ≤ w.heap.size := by obtain ⟨_, _, _, _, h4⟩ := h; exact h4
  have i1 : OwN tInt w hi hi [.int .i64 o] o := own_one (T := tInt) (d := o) ⟨rfl, rfl⟩ hh
  have i2 : OwN tInt w hi hi [.int .i64 f] f := own_one (T := tInt) (d := f) ⟨rfl, rfl⟩ hh
  have i3 : OwN tInt w lo lo [.int .i64 k] k := own_one (T := tInt) (d := k) ⟨rfl, rfl⟩ (Nat.le_trans hl hh)
  exact OwN.two i3 (OwN.two h (OwN.two i2 i1 (Nat.le_refl _) (Nat.le_refl _)) hl (Nat.le_refl _)) (Nat.le_refl _) hl
def rsnD (r : RsnD) : tReason.D := (r.key, r.grp, r.first, r.other)
theorem ReasonL.owN {w w' : World} {r : Option RsnD} {e : Ending} (h : ReasonL w r e w') :
    ∃ v : Value, e = .returned (.tuple #[.agg #[.int .i64 (r.getD rsn0).key, v, .int .i64 (r.getD rsn0).first, .int .i64 (r.getD rsn0).other], .bool r.isSome]) ∧ OwN tReason w' w.heap.size w'.heap.size [.int .i64 (r.getD rsn0).key, v, .int .i64 (r.getD rsn0).first, .int .i64 (r.getD rsn0).other] (rsnD (r.getD rsn0)) ∧ Below w.heap.size w w' := by
  obtain ⟨v, he, ho, hb⟩ := h
  exact ⟨v, he, own_reason (own_ints ho (fun q hq => (ho.lt q hq).2) (Nat.le_refl _)) hb.size, hb⟩
theorem rsn_len (b : BookD) (x y : Int) {c : Prop} [Decidable c] (hn : b.nf ≤ 1048576) : ((if c then findP b x y (allL b.nf) 0 else none).getD rsn0).grp.length ≤ 1048576 := by
  split
  · cases h : findP b x y (allL b.nf) 0 with
    | none => exact Nat.zero_le _
    | some r => have := findP_len b x y _ _ r h; rw [allL_len] at this; show r.grp.length ≤ _; omega
  · exact Nat.zero_le _
theorem marks_rsn {r : RsnD} (h : r.grp.length ≤ 1048576) : cnt_Reason (rsnD r) ≤ 100000000000 := by
  have := mks_IntS r.grp
  show 0 + (tIntS.mks r.grp + (0 + 0)) ≤ _
  omega
theorem steps_len (b : BookD) (hp : bookP b) (t : Int) : (stepP b t (allL b.nf) 0).length ≤ 1048576 := by
  have h1 := stepP_len b t _ (allL b.nf) 0 (Nat.lt_succ_self _)
  have hn8 : b.nf ≤ 8 := by have := hp.1.1; omega
  have hl8 : b.nl ≤ 8 := by have := hp.2.1.2.2.2.1; omega
  rw [allL_len] at h1
  unfold rankM at h1
  have h7 : b.nf * (b.nl + 1) ≤ 8 * (b.nl + 1) := Nat.mul_le_mul_right _ hn8
  omega
theorem marks_steps {c : Prop} [Decidable c] (b : BookD) (hp : c → bookP b) (t : Int) : tIntS.mks (if c then stepP b t (allL b.nf) 0 else []) ≤ 100000000000 := by
  have h2 : ∀ M : List Int, M = (if c then stepP b t (allL b.nf) 0 else []) → tIntS.mks M ≤ 100000000000 := by
    intro M hM
    rw [mks_IntS, hM]
    split
    · have := steps_len b (hp ‹_›) t; omega
    · simp
  exact h2 _ rfl
theorem rsn_ints {w : World} {k f o : Int} {v : Value} {d : tReason.D} (h : RdA tReason w [.int .i64 k, v, .int .i64 f, .int .i64 o] d) : IntRow w v (List.length (α := Int) d.2.1) (getI d.2.1) := by
  have t0 := (rd_split h).2
  have h1 : RdA tIntS w [v] d.2.1 := (rd_split t0).1
  exact rd_IntS.1 h1
end Go.Proofs.Yteciobkjfmddcaa
set_option linter.unusedVariables false
namespace Go.Proofs.Yteciobkjfmddcaa
open Go.RowKit

def sameL (n n' : Nat) (g g' : Nat → Int) : Prop := n = n' ∧ ∀ i, i < n → g i = g' i
theorem slicesEqual_int (v v' : Value) (n n' : Nat) (g g' : Nat → Int) (R : Bool) (w : World) (hR : R = true ↔ sameL n n' g g') (h : IntRow w v n g) (h' : IntRow w v' n' g') :
    Calls Try.prog 11 #[v, v'] w fun e w' => e = .returned (.bool R) ∧ Below w.heap.size w w' := by
  obtain ⟨a, cap, rfl, hn, hv⟩ := h.form
  obtain ⟨a', cap', rfl, hn', hv'⟩ := h'.form
  have HV := Lib.hid hv
  have HV' := Lib.hid hv'
  have HR := Lib.hid hR
  clear hv hv' h h' hR
  by_cases hnn : n = n'
  case neg =>
    have hf : R = false := by
      cases R with
      | false => rfl
      | true => exact absurd (HR.out.1 rfl).1 hnn
    subst hf
    have g1 : ((n : Int) != (n' : Int)) = true := by simpa using fun e : (n : Int) = n' => hnn (by omega)
    have g2 : (n != n') = true := by simpa using hnn
    have HNN := Lib.hid hnn
    clear hnn HR
    go_enter Try.func11, Try.ntmps11
    go_wp2
    go_ret
    exact ⟨rfl, Below.refl _ _⟩
  subst hnn
  have HNO : Hid (∀ k, k < n → g k ≠ g' k → R = false) := fun k hk hne => by
    cases R with
    | false => rfl
    | true => exact absurd ((HR.out.1 rfl).2 k hk) hne
  have HYES : Hid ((∀ i, i < n → g i = g' i) → R = true) := fun h => HR.out.2 ⟨rfl, h⟩
  clear HR
  go_enter Try.func11, Try.ntmps11
  go_wp2
  go_loopw [13] (fun i wr => ∃ k q : Nat, k ≤ n ∧ i = .int .i64 k ∧ Hid (∀ i, i < k → g i = g' i) ∧ wr = w.drewN q) (fun i _ => n - (intOf i).toNat)
  case atStart => exact ⟨0, 0, Nat.zero_le _, rfl, fun i hi => absurd hi (by omega), rfl⟩
  case round =>
    obtain ⟨k, q, hk, rfl, hok, rfl⟩ := hrel
    by_cases hlt : k < n
    · obtain ⟨b, off, rfl, hc⟩ := HV.out (by omega)
      obtain ⟨b', off', rfl, hc'⟩ := HV'.out (by omega)
      have c1 := hc k hlt
      have c2 := hc' k hlt
      have H1 := Lib.hid (HNO.out k hlt)
      have H2 : Hid (g k = g' k → ∀ i, i < k + 1 → g i = g' i) := fun h i hi => by
        by_cases hik : i = k
        · subst hik; exact h
        · exact hok.out i (by omega)
      clear hc hc' HV HV' HNO HYES hok
      generalize g k = x at *
      generalize g' k = y at *
      by_cases hxy : x = y
      · subst hxy
        have HN := Lib.hid (H2.out rfl)
        clear H1 H2
        go_wp2
        go_quiet (fail)
        go_wp2
        go_roundw
        case rel => exact ⟨k + 1, q + nq, by omega, by go_num, HN.out, rfl⟩
        case measure => simp [intOf]; omega
      · obtain rfl := H1.out hxy
        have g1 : (x != y) = true := bne_iff_ne.2 hxy
        have HX := Lib.hid hxy
        clear H1 H2 hxy
        go_wp2
        go_quiet (fail)
        go_wp2
        go_ret
        exact ⟨rfl, below_drewN (below_drewN (Below.refl _ _) q) nq⟩
    · obtain rfl : k = n := by omega
      obtain rfl := HYES.out hok.out
      clear HNO HYES hok
      go_wp2
      go_ret
      exact ⟨rfl, below_drewN (Below.refl _ _) q⟩
def sameP (win draw loss : Int) (ag : Bool) (n : Nat) (g : Nat → Int) (win' draw' loss' : Int) (ag' : Bool) (n' : Nat) (g' : Nat → Int) : Prop :=
  (win = win' ∧ draw = draw' ∧ loss = loss' ∧ ag = ag') ∧ sameL n n' g g'
def Box5 (w : World) (B : Nat) (a b c d f : Value) : Prop := w.cell? ⟨B, 0, none⟩ = some a ∧ w.cell? ⟨B, 1, none⟩ = some b ∧ w.cell? ⟨B, 2, none⟩ = some c ∧ w.cell? ⟨B, 3, none⟩ = some d ∧ w.cell? ⟨B, 4, none⟩ = some f
theorem Box5.below {w w2 : World} {B : Nat} {a b c d f : Value} (k : Box5 w B a b c d f) (h : Below w.heap.size w w2) : Box5 w2 B a b c d f := cells5_below k h
theorem Box5.made (w : World) (t : TypeId) {a b c d f : Value} : Box5 (w.alloc (.cells #[a, b, c, d, f] t)) w.heap.size a b c d f := cells5 (Below.refl _ _)
end Go.Proofs.Yteciobkjfmddcaa
set_option linter.unusedVariables false
namespace Go.Proofs.Yteciobkjfmddcaa
open Go.RowKit

set_option maxRecDepth 100000 in
set_option maxHeartbeats 2000000 in
theorem sameReason_impl (k f o k' f' o' : Int) (v v' : Value) (n n' : Nat) (g g' : Nat → Int) (R : Bool) (w : World) (hR : R = true ↔ (k = k' ∧ f = f' ∧ o = o' ∧ n = n' ∧ ∀ i, i < n → g i = g' i)) (h : IntRow w v n g) (h' : IntRow w v' n' g') :
    Calls Try.prog 7 #[.agg #[.int .i64 k, v, .int .i64 f, .int .i64 o], .agg #[.int .i64 k', v', .int .i64 f', .int .i64 o']] w fun e w' => e = .returned (.bool R) ∧ Below w.heap.size w w' := by
  obtain ⟨va, vc, rfl, hv63, _⟩ := h.form
  obtain ⟨va', vc', rfl, hv63', _⟩ := h'.form
  have ba := (Below.refl w.heap.size w).alloc (Nat.le_refl _) (.cells #[.int .i64 k, .slice va n vc, .int .i64 f, .int .i64 o] 27)
  have bb := (Below.refl (w.alloc (.cells #[.int .i64 k, .slice va n vc, .int .i64 f, .int .i64 o] 27)).heap.size (w.alloc (.cells #[.int .i64 k, .slice va n vc, .int .i64 f, .int .i64 o] 27))).alloc (Nat.le_refl _) (.cells #[.int .i64 k', .slice va' n' vc', .int .i64 f', .int .i64 o'] 27)
  have B1 := Lib.hid ((BoxN.made (Below.refl _ (w.alloc (.cells #[.int .i64 k, .slice va n vc, .int .i64 f, .int .i64 o] 27))) (B := w.heap.size) rfl).below bb)
  have B2 := Lib.hid (BoxN.made (Below.refl _ ((w.alloc (.cells #[.int .i64 k, .slice va n vc, .int .i64 f, .int .i64 o] 27)).alloc (.cells #[.int .i64 k', .slice va' n' vc', .int .i64 f', .int .i64 o'] 27))) (B := w.heap.size + 1) (by simp))
  have HB := Lib.hid (ba.trans (bb.mono ba.size))
  obtain ⟨U, hU⟩ : ∃ U, (w.alloc (.cells #[.int .i64 k, .slice va n vc, .int .i64 f, .int .i64 o] 27)).alloc (.cells #[.int .i64 k', .slice va' n' vc', .int .i64 f', .int .i64 o'] 27) = U := ⟨_, rfl⟩
  rw [hU] at B1 B2 HB
  have G1 := Lib.hid (h.below HB.out (Nat.le_refl _))
  have G2 := Lib.hid (h'.below HB.out (Nat.le_refl _))
  clear ba bb h h'
  have hlt1 := B1.out.1
  have hlt2 := B2.out.1
  have d0 := B1.out.2 0 _ rfl
  have d1 := B1.out.2 1 _ rfl
  have d2 := B1.out.2 2 _ rfl
  have d3 := B1.out.2 3 _ rfl
  have e0 := B2.out.2 0 _ rfl
  have e1 := B2.out.2 1 _ rfl
  have e2 := B2.out.2 2 _ rfl
  have e3 := B2.out.2 3 _ rfl
  have HN := Lib.hid (boolF hR)
  have HY := Lib.hid (boolT hR)
  have HR2 := Lib.hid hR
  clear hR
  go_enter Try.func7, Try.ntmps7
  by_cases hk : k = k'
  case neg =>
    obtain rfl := HN.out (fun h => hk h.1)
    have g1 : (k == k') = false := beq_eq_false_iff_ne.2 hk
    clear HR2
    go_wp2
    go_ret
    exact ⟨rfl, HB.out⟩
  subst hk
  by_cases hf : f = f'
  case neg =>
    obtain rfl := HN.out (fun h => hf h.2.1)
    have g2 : (f == f') = false := beq_eq_false_iff_ne.2 hf
    clear HR2
    go_wp2
    go_ret
    exact ⟨rfl, HB.out⟩
  subst hf
  by_cases ho : o = o'
  case neg =>
    obtain rfl := HN.out (fun h => ho h.2.2.1)
    have g3 : (o == o') = false := beq_eq_false_iff_ne.2 ho
    clear HR2
    go_wp2
    go_ret
    exact ⟨rfl, HB.out⟩
  subst ho
  have hR3 : R = true ↔ sameL n n' g g' := by
    rw [HR2.out]
    exact ⟨fun h => h.2.2.2, fun h => ⟨rfl, rfl, rfl, h⟩⟩
  have CE := Lib.hid (slicesEqual_int (.slice va n vc) (.slice va' n' vc') n n' g g' R U hR3 G1.out G2.out)
  clear hR3 HR2 HN HY G1 G2
  go_wp2_with fail
  refine CE.out.mono ?_
  rintro e w2 ⟨rfl, b2⟩
  have HE := Lib.hid (HB.out.trans (b2.mono HB.out.size))
  clear hU b2 CE
  go_wp2
  go_ret
  exact ⟨rfl, HE.out⟩
end Go.Proofs.Yteciobkjfmddcaa
