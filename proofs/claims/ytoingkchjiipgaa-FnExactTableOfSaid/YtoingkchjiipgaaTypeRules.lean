/-
  The laws' helpers on rule books: szRules, toRules, eqRules, markRules, heldRules.
-/
import Derived.Test.YtoingkchjiipgaaLawKit
set_option linter.unusedVariables false
namespace Go.Proofs.Ytoingkchjiipgaa
open Go.RowKit

theorem x_sz_Rules (win draw loss : Int) (v : Value) (n : Nat) (g : Nat → Int) (ag : Bool) (left : Int) (w : World) (hl0 : 0 ≤ left) (hl : left ≤ 1048576) (h : IntRow w v n g) :
    Calls Try.prog 20 #[.agg #[.int .i64 win, .int .i64 draw, .int .i64 loss, v, .bool ag], .int .i64 left] w (SzPost n left w) := by
  have C := Lib.hid (fun w1 h1 => x_sz_IntS v n g left w1 hl0 hl h1)
  have H := Lib.hid h
  clear h
  go_enter Try.func20, Try.ntmps20
  go_wp2_with fail
  refine (C.out _ (H.out.below ((Below.refl _ w).alloc (Nat.le_refl _) _) (Nat.le_refl _))).mono ?_
  rintro e w1 ⟨⟨r, rfl, hr⟩, b1⟩
  have b2 := below_prev b1
  rcases hr with hr | ⟨hr, hre⟩
  · have g1 : decide (r < 0) = true := decide_eq_true hr
    go_wp2
    go_ret
    exact ⟨⟨_, rfl, .inl (by decide)⟩, b2⟩
  · have g1 : decide (r < 0) = false := decide_eq_false (by omega)
    have HR := Lib.hid hre
    clear hre
    go_wp2
    go_ret
    exact ⟨⟨_, rfl, .inr ⟨hr, HR.out⟩⟩, b2⟩
def RulesMade (win draw loss : Int) (n : Nat) (g : Nat → Int) (ag : Bool) (w : World) (e : Ending) (w' : World) : Prop :=
  ∃ v, e = .returned (.agg #[.int .i64 win, .int .i64 draw, .int .i64 loss, v, .bool ag]) ∧ IntRow w' v n g ∧ (∃ xs, w'.ownsRow w.heap.size 3 1 v n xs) ∧ Below w.heap.size w w'
theorem rulesMade_of {win draw loss : Int} {n : Nat} {g : Nat → Int} {ag : Bool} {w w1 w9 : World} {v : Value} {xs : List Value} {base : Nat} (h : IntRow w1 v n g) (o : w1.ownsRow base 3 1 v n xs) (hb : base = w.heap.size + 3) (b : Below w.heap.size w w1)
    (T : Touch (w.heap.size + 1) (w.heap.size + 3) w1 w9) : RulesMade win draw loss n g ag w (.returned (.agg #[.int .i64 win, .int .i64 draw, .int .i64 loss, v, .bool ag])) w9 := by
  subst hb
  have hin := InW.of_owns o
  exact ⟨v, rfl, h.touch T (fun _ => hin) (.inr (Nat.le_refl _)), ⟨xs, owns_mono (owns_touch o T hin (.inr (Nat.le_refl _))) (by omega)⟩, b.trans (T.below (by omega) b.size)⟩
theorem x_to_Rules (win draw loss : Int) (v : Value) (n : Nat) (g : Nat → Int) (ag : Bool) (w : World) (h : IntRow w v n g) (hn : n ≤ 1048576) :
    Calls Try.prog 23 #[.agg #[.int .i64 win, .int .i64 draw, .int .i64 loss, v, .bool ag]] w (RulesMade win draw loss n g ag w) := by
  have C := Lib.hid (fun w1 h1 => x_to_IntS v n g w1 h1 hn)
  have H := Lib.hid h
  clear h
  go_enter Try.func23, Try.ntmps23
  go_wp2_with fail
  refine (C.out _ ?_).mono ?_
  · exact H.out.below ((((((Below.refl _ w).alloc (Nat.le_refl _) _).alloc (by simp) _).alloc (by simp <;> omega) _))) (Nat.le_refl _)
  rintro e w1 ⟨v1, rfl, r1, ⟨xs, o1⟩, b1⟩
  obtain ⟨a1, cap1, rfl, _⟩ := r1.form
  have R1 := Lib.hid r1
  have O1 := Lib.hid o1
  clear r1 o1
  have f2 := fun j => BoxN.free b1 (B := w.heap.size + 2) (by simp) j
  have k2 := BoxN.made b1 (B := w.heap.size + 2) (by simp)
  have b2 := below_prev b1
  have f1 := fun j => BoxN.free b2 (B := w.heap.size + 1) (by simp) j
  have k1 := BoxN.made b2 (B := w.heap.size + 1) (by simp)
  have b3 := below_prev b2
  have k0 := BoxN.made b3 (B := w.heap.size) rfl
  have p0 := k0.2 0 _ rfl
  have p1 := k0.2 1 _ rfl
  have p2 := k0.2 2 _ rfl
  have p3 := k0.2 3 _ rfl
  have p4 := k0.2 4 _ rfl
  have q0 := k1.2 0 _ rfl
  have q1 := k1.2 1 _ rfl
  have q2 := k1.2 2 _ rfl
  have q3 := k1.2 3 _ rfl
  have q4 := k1.2 4 _ rfl
  have s0 := k2.2 0 _ rfl
  have s1 := k2.2 1 _ rfl
  have s2 := k2.2 2 _ rfl
  have s3 := k2.2 3 _ rfl
  have s4 := k2.2 4 _ rfl
  have hz : w.heap.size + 2 < w1.heap.size := by have := b1.size; simp at this; omega
  have B3 := Lib.hid (below_prev b3)
  clear b1 b2 b3 k0 k1 k2
  go_wp2
  refine bodyPost_ret (v := .agg #[.int .i64 win, .int .i64 draw, .int .i64 loss, .slice a1 n cap1, .bool ag]) (by simp [results, Try.results23, go_sem, q0, q1, q2, q3, q4]) rfl ?_
  refine rulesMade_of R1.out O1.out (by simp) B3.out ?_
  iterate 7 (refine Touch.setCell ?_ _ _ (by simp <;> omega) (by simp <;> omega))
  exact Touch.refl _ _ _
theorem x_eq_Rules (win draw loss : Int) (v : Value) (n : Nat) (g : Nat → Int) (ag : Bool) (v' : Value) (w : World) (h : IntRow w v n g) (h' : IntRow w v' n g) :
    Calls Try.prog 26 #[.agg #[.int .i64 win, .int .i64 draw, .int .i64 loss, v, .bool ag], .agg #[.int .i64 win, .int .i64 draw, .int .i64 loss, v', .bool ag]] w fun e w' => e = .returned (.bool true) ∧ Below w.heap.size w w' := by
  have C := Lib.hid (fun w1 h1 h2 => x_eq_IntS v n g v' w1 h1 h2)
  have H := Lib.hid h
  have H' := Lib.hid h'
  clear h h'
  go_enter Try.func26, Try.ntmps26
  go_wp2_with fail
  refine (C.out _ (H.out.below (((Below.refl _ w).alloc (Nat.le_refl _) _).alloc (by simp) _) (Nat.le_refl _)) (H'.out.below (((Below.refl _ w).alloc (Nat.le_refl _) _).alloc (by simp) _) (Nat.le_refl _))).mono ?_
  rintro e w1 ⟨rfl, b1⟩
  have k1 := BoxN.made b1 (B := w.heap.size + 1) (by simp)
  have b2 := below_prev b1
  have k0 := BoxN.made b2 (B := w.heap.size) rfl
  have p4 := k0.2 4 _ rfl
  have q4 := k1.2 4 _ rfl
  have b3 := below_prev b2
  clear b1 b2 k0 k1
  go_wp2
  go_ret
  exact ⟨rfl, b3⟩
theorem x_mk_Rules (win draw loss : Int) (v : Value) (n : Nat) (ag : Bool) (k : Int) (lo hi base : Nat) (xs : List Value) (w : World) (hown : w.ownsRow base 3 1 v n xs) (hin : InW lo hi v) (h0 : 0 < k) (hk : k + n ≤ 1000000000000) :
    Calls Try.prog 28 #[.agg #[.int .i64 win, .int .i64 draw, .int .i64 loss, v, .bool ag], .int .i64 k] w fun e w' => e = .returned (.int .i64 (k + n)) ∧ IntRow w' v n (fun i => k + (i : Int)) ∧ Touch lo hi w w' := by
  have C := Lib.hid (fun w1 h1 => x_mk_IntS v n k lo hi base xs w1 h1 hin h0 hk)
  have H := Lib.hid hown
  clear hown
  go_enter Try.func28, Try.ntmps28
  go_wp2_with fail
  refine (C.out _ (H.out.alloc _)).mono ?_
  rintro e w1 ⟨rfl, r1, t1⟩
  have R1 := Lib.hid r1
  have T1 : Hid (Touch lo hi w w1) := (Touch.of_below ((Below.refl _ w).alloc (Nat.le_refl _) _)).trans t1
  clear r1 t1
  go_wp2
  go_ret
  exact ⟨rfl, R1.out, T1.out⟩
end Go.Proofs.Ytoingkchjiipgaa
