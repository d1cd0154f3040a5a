/-
  Packed: TypePair, TyPair, TyPairSS, HasMem, Teams, Field, Clubs, BookOk, Rounds.
-/
import Derived.Deep.RegionHeld3
import Derived.Test.YtfkfolglfmmkoaaQ1
import Derived.Test.YtfkfolglfmmkoaaQ2
import Derived.Test.YtfkfolglfmmkoaaQ3
set_option linter.unusedVariables false
namespace Go.Proofs.Ytfkfolglfmmkoaa
open Go.RowKit

structure PairD where
  home : Int
  away : Int
instance : Inhabited PairD := ⟨⟨0, 0⟩⟩
def PairD.cells (t : PairD) : List Value := [.int .i64 t.home, .int .i64 t.away]
def PairD.val (t : PairD) : Value := .agg #[.int .i64 t.home, .int .i64 t.away]
def PairD.fit (t : PairD) : Prop := IntFit t.home ∧ IntFit t.away
theorem PairD.len (t : PairD) : t.cells.length = 2 := rfl
def PairRow (w : World) (v : Value) (n : Nat) (g : Nat → PairD) : Prop := RecRow 2 w v n fun i => (g i).cells
theorem PairRow.below {w w' : World} {B : Nat} {v : Value} {n : Nat} {g : Nat → PairD} (h : PairRow w v n g) (hb : Below B w w') (hB : w.heap.size ≤ B) : PairRow w' v n g := RecRow.below h hb hB
theorem PairRow.touch {lo hi lo' hi' : Nat} {w w' : World} {v : Value} {n : Nat} {g : Nat → PairD} (h : PairRow w v n g) (t : Touch lo hi w w') (hv : 0 < n → InW lo' hi' v) (ho : hi' ≤ lo ∨ hi ≤ lo') : PairRow w' v n g := RecRow.touch h t hv ho
theorem PairRow.form {w : World} {v : Value} {n : Nat} {g : Nat → PairD} (h : PairRow w v n g) : ∃ a cap, v = .slice a n cap ∧ n ≤ 9223372036854775807 ∧ (0 < n → ∃ b off, a = some ⟨b, off, none⟩ ∧ n ≤ cap ∧ ∀ i, i < n → CellsAt w b (off + i * 2) (g i).cells) := RecRow.form h
theorem InW.pairRow {hi : Nat} {v : Value} {w : World} {n : Nat} {g : Nat → PairD} (h : PairRow w v n g) (h0 : 0 < n) (hs : w.heap.size ≤ hi) : InW 0 hi v := RecRow.inw h h0 hs
theorem PairRow.of_owns {w : World} {base : Nat} {e : TypeId} {v : Value} {n : Nat} {xs : List Value} {g : Nat → PairD} (h : w.ownsRow base e 2 v n xs) (hn : n ≤ 9223372036854775807) (hg : RecCells 2 n xs fun i => (g i).cells) : PairRow w v n g := RecRow.of_owns h hn hg fun _ _ => Nat.le_refl _
theorem Try.infoPair : (Try.prog.info? 63).map (fun i => (i.zero, i.size, i.bytes)) = some (some (.agg #[.int .i64 0, .int .i64 0]), 2, 16) := by kernel_rfl
theorem x_sz_PairS (v : Value) (n : Nat) (g : Nat → PairD) (left : Int) (w : World) (hl0 : 0 ≤ left) (hl : left ≤ 1048576) (h : PairRow w v n g) :
    Calls Try.prog 68 #[v, .int .i64 left] w (SzPost n left w) := by
  obtain ⟨a, cap, rfl, hn, _⟩ := h.form
  clear h
  by_cases hbig : left < n
  · have g0 : decide (left - (n : Int) < 0) = true := decide_eq_true (by omega)
    go_enter Try.func68, Try.ntmps68
    go_wp2
    go_ret
    exact ⟨⟨_, rfl, .inl (by decide)⟩, Below.refl _ _⟩
  · have g0 : decide (left - (n : Int) < 0) = false := decide_eq_false (by omega)
    go_enter Try.func68, Try.ntmps68
    go_wp2
    go_ret
    exact ⟨⟨_, rfl, .inr ⟨by omega, by omega⟩⟩, Below.refl _ _⟩
theorem x_to_Pair (home : Int) (away : Int) (w : World) : Calls Try.prog 108 #[.agg #[.int .i64 home, .int .i64 away]] w fun e w' => e = .returned (.agg #[.int .i64 home, .int .i64 away]) ∧ Below w.heap.size w w' := by
  go_enter Try.func108, Try.ntmps108
  go_wp2
  exact bodyPost_ret (v := .agg #[.int .i64 home, .int .i64 away]) (by simp [results, Try.results108, go_sem]) rfl ⟨rfl, (((Below.refl _ _).alloc (Nat.le_refl _) _).alloc (by simp) _).alloc (by simp; omega) _⟩
theorem x_eq_Pair (home : Int) (away : Int) (w : World) : Calls Try.prog 109 #[.agg #[.int .i64 home, .int .i64 away], .agg #[.int .i64 home, .int .i64 away]] w fun e w' => e = .returned (.bool true) ∧ Below w.heap.size w w' := by
  go_enter Try.func109, Try.ntmps109
  go_wp2
  go_ret
  exact ⟨rfl, ((Below.refl _ _).alloc (Nat.le_refl _) _).alloc (by simp) _⟩
set_option maxHeartbeats 1000000 in
theorem x_to_PairS (v : Value) (n : Nat) (g : Nat → PairD) (w : World) (h : PairRow w v n g) (hn : n ≤ 1048576) :
    Calls Try.prog 71 #[v] w (RecMade 2 63 w n fun i => (g i).cells) := by
  obtain ⟨i0, hi, hz0, hz1, hz2⟩ := info_parts Try.infoPair
  obtain ⟨a, cap, rfl, _, hv⟩ := h.form
  have HV := Lib.hid hv
  clear hv h
  go_enter Try.func71, Try.ntmps71
  go_wp2_with (at_make; refine wpList_make_full _ rfl _ _ 66 rfl w.heap.size 63 i0 (.agg #[.int .i64 0, .int .i64 0]) 2 Try.underlying66 hi hz0 hz1 .i64 .i64 n n n rfl rfl rfl rfl (by rw [hz2]; omega) (by unfold maxLen; omega) (Nat.le_refl _) ?_; intro w1 hown hg1)
  have hb1 : Below w.heap.size w w1 := (Below.refl _ _).grown hg1 (Nat.le_refl _) (fun k hk => by cases hk)
  clear hg1
  go_loopw [4] (fun i wr => ∃ (j : Nat) (ys : List Value), j ≤ n ∧ i = .int .i64 j ∧ wr.ownsRow w.heap.size 63 2 (.slice (some ⟨w.heap.size, 0, none⟩) n n) n ys ∧
      Hid (RecCells 2 j ys fun i => (g i).cells) ∧ Below w.heap.size w wr)
    (fun i _ => n - (RowKit.intOf i).toNat)
  case atStart => exact ⟨0, _, Nat.zero_le _, rfl, hown, RecCells.nil, hb1⟩
  case round =>
    obtain ⟨j, ys, hj, rfl, hown', hys, hb⟩ := hrel
    clear hown hb1
    by_cases hlt : j < n
    · obtain ⟨b, off, rfl, _, hc⟩ := HV.out (by omega)
      have hq := (hc j hlt).belowB hb (hc j hlt).1
      generalize hx : g j = x at *
      have c0 : wr.cell? ⟨b, off + j * 2, none⟩ = some (.int .i64 x.home) := hq.2 0 _ rfl
      have c1 : wr.cell? ⟨b, off + j * 2 + 1, none⟩ = some (.int .i64 x.away) := hq.2 1 _ rfl
      have Hx := Lib.hid hx
      have hlen := hown'.1
      have HL := Lib.hid hlen
      have hsz := hb.size
      clear hc HV hx hlen hq
      go_wp2_with (go_at_call 108; refine (x_to_Pair x.home x.away _).mono ?_; rintro e w2 ⟨rfl, b2⟩; have hown2 := owns_below hown' b2 (Nat.le_refl _); obtain ⟨u0, e0⟩ := owns_cellR hown2 (j * 2) (by omega); have f0 := hown2.frozenAt (j * 2); obtain ⟨u1, e1⟩ := owns_cellR hown2 (j * 2 + 1) (by omega); have f1 := hown2.frozenAt (j * 2 + 1))
      go_roundw
      case rel =>
        have hb2 := (hb.trans (b2.mono hsz))
        exact ⟨j + 1, _, by omega, by go_num, ((hown2.stored (j * 2) _).1.stored (j * 2 + 1) _).1, hys.out.sets (cs := x.cells) HL.out hlt (by show (g j).cells = _; rw [Hx.out]) rfl (fun _ _ => Nat.le_refl _), ((hb2.setCell (Nat.le_refl _) _).setCell (Nat.le_refl _) _)⟩
      case measure => simp [RowKit.intOf]; omega
    · obtain rfl : j = n := by omega
      go_wp2
      go_ret
      exact ⟨_, rfl, RecRow.of_owns hown' (by omega) hys.out (fun _ _ => Nat.le_refl _), ⟨_, hown'⟩, hb⟩
set_option maxHeartbeats 1000000 in
theorem x_eq_PairS (v : Value) (n : Nat) (g : Nat → PairD) (v' : Value) (w : World) (h : PairRow w v n g) (h' : PairRow w v' n g) :
    Calls Try.prog 72 #[v, v'] w fun e w' => e = .returned (.bool true) ∧ Below w.heap.size w w' := by
  obtain ⟨a, cap, rfl, hn, hv⟩ := h.form
  obtain ⟨a', cap', rfl, _, hv'⟩ := h'.form
  have HV := Lib.hid hv
  have HV' := Lib.hid hv'
  clear hv hv' h h'
  go_enter Try.func72, Try.ntmps72
  go_wp2
  go_loopw [5] (fun i wr => ∃ j : Nat, j ≤ n ∧ i = .int .i64 j ∧ Below w.heap.size w wr) (fun i _ => n - (RowKit.intOf i).toNat)
  case atStart => exact ⟨0, Nat.zero_le _, rfl, Below.refl _ _⟩
  case round =>
    obtain ⟨j, hj, rfl, hb⟩ := hrel
    by_cases hlt : j < n
    · obtain ⟨b, off, rfl, hcap, hc⟩ := HV.out (by omega)
      obtain ⟨b', off', rfl, hcap', hc'⟩ := HV'.out (by omega)
      have qa := (hc j hlt).belowB hb (hc j hlt).1
      have qb := (hc' j hlt).belowB hb (hc' j hlt).1
      clear hc hc' HV HV'
      generalize g j = x at *
      have hj0 : (0 : Int) ≤ (j : Int) := by omega
      have hj1 : (j : Int) < (n : Int) := by omega
      go_wp2
      obtain ⟨S, HSd⟩ : ∃ S : World → Prop, S = fun w' => CellsAt w' b (off + j * 2) x.cells ∧ CellsAt w' b' (off' + j * 2) x.cells ∧ Below w.heap.size w w' := ⟨_, rfl⟩
      have KS : Hid (∀ wa wb, S wa → Below wa.heap.size wa wb → S wb) := by subst HSd; exact fun wa wb ⟨qa, qb, hb⟩ b0 => ⟨qa.below b0, qb.below b0, hb.trans (b0.mono hb.size)⟩
      have OS : Hid (∀ wa, S wa → CellsAt wa b (off + j * 2) x.cells ∧ CellsAt wa b' (off' + j * 2) x.cells ∧ Below w.heap.size w wa) := by subst HSd; exact fun wa h => h
      have KS0 : Hid (S wr.drew) := by subst HSd; exact (fun (b0 : Below wr.heap.size wr wr.drew) => ⟨qa.below b0, qb.below b0, hb.trans (b0.mono hb.size)⟩) (Below.refl _ _).drew
      clear HSd
      go_wp2_with fail
      refine wp_region_held_drew (S := S) (by kernel_rfl) ?_ (fun hHeld => ?_)
      · exact KS0.out
      clear KS0 qa qb hb
      refine wpAnyH_take (i := 0) (v := ?_) rfl (by kernel_rfl) (by kernel_rfl) (by kernel_rfl) (fun _ _ _ h => h) (Or.inl ⟨by rfl, ?_⟩) (by assumption) ?_
      rotate_left
      · (intro wa hSw; obtain ⟨qa, qb, hb⟩ := OS.out _ hSw; have c0 : wa.cell? ⟨b, off + j * 2, none⟩ = some (.int .i64 x.home) := qa.2 0 _ rfl; have c1 : wa.cell? ⟨b, off + j * 2 + 1, none⟩ = some (.int .i64 x.away) := qa.2 1 _ rfl; have d0 : wa.cell? ⟨b', off' + j * 2, none⟩ = some (.int .i64 x.home) := qb.2 0 _ rfl; have d1 : wa.cell? ⟨b', off' + j * 2 + 1, none⟩ = some (.int .i64 x.away) := qb.2 1 _ rfl; go_simp; try with_reducible rfl)
      simp only [Act.put, List.getElem_toArray, List.getElem_cons_zero, List.setIfInBounds_toArray, List.set_cons_zero, List.set_cons_succ]
      refine wpAnyH_take (i := 1) (v := ?_) rfl (by kernel_rfl) (by kernel_rfl) (by kernel_rfl) (fun _ _ _ h => h) (Or.inl ⟨by rfl, ?_⟩) (by assumption) ?_
      rotate_left
      · (intro wa hSw; obtain ⟨qa, qb, hb⟩ := OS.out _ hSw; have c0 : wa.cell? ⟨b, off + j * 2, none⟩ = some (.int .i64 x.home) := qa.2 0 _ rfl; have c1 : wa.cell? ⟨b, off + j * 2 + 1, none⟩ = some (.int .i64 x.away) := qa.2 1 _ rfl; have d0 : wa.cell? ⟨b', off' + j * 2, none⟩ = some (.int .i64 x.home) := qb.2 0 _ rfl; have d1 : wa.cell? ⟨b', off' + j * 2 + 1, none⟩ = some (.int .i64 x.away) := qb.2 1 _ rfl; go_simp; try with_reducible rfl)
      simp only [Act.put, List.getElem_toArray, List.getElem_cons_zero, List.getElem_cons_succ, List.setIfInBounds_toArray, List.set_cons_zero, List.set_cons_succ]
      refine wpAnyH_take (i := 2) (v := ?_) rfl (by kernel_rfl) (by kernel_rfl) (by kernel_rfl) (fun _ _ _ h => h) (Or.inl ⟨by rfl, ?_⟩) (by assumption) ?_
      rotate_left
      · (intro wa hSw; obtain ⟨qa, qb, hb⟩ := OS.out _ hSw; have c0 : wa.cell? ⟨b, off + j * 2, none⟩ = some (.int .i64 x.home) := qa.2 0 _ rfl; have c1 : wa.cell? ⟨b, off + j * 2 + 1, none⟩ = some (.int .i64 x.away) := qa.2 1 _ rfl; have d0 : wa.cell? ⟨b', off' + j * 2, none⟩ = some (.int .i64 x.home) := qb.2 0 _ rfl; have d1 : wa.cell? ⟨b', off' + j * 2 + 1, none⟩ = some (.int .i64 x.away) := qb.2 1 _ rfl; go_simp; try with_reducible rfl)
      simp only [Act.put, List.getElem_toArray, List.getElem_cons_zero, List.getElem_cons_succ, List.setIfInBounds_toArray, List.set_cons_zero, List.set_cons_succ]
      refine wpAnyH_take (i := 3) (v := ?_) rfl (by kernel_rfl) (by kernel_rfl) (by kernel_rfl) (fun _ _ _ h => h) (Or.inl ⟨by rfl, ?_⟩) (by assumption) ?_
      rotate_left
      · (intro wa hSw; obtain ⟨qa, qb, hb⟩ := OS.out _ hSw; have c0 : wa.cell? ⟨b, off + j * 2, none⟩ = some (.int .i64 x.home) := qa.2 0 _ rfl; have c1 : wa.cell? ⟨b, off + j * 2 + 1, none⟩ = some (.int .i64 x.away) := qa.2 1 _ rfl; have d0 : wa.cell? ⟨b', off' + j * 2, none⟩ = some (.int .i64 x.home) := qb.2 0 _ rfl; have d1 : wa.cell? ⟨b', off' + j * 2 + 1, none⟩ = some (.int .i64 x.away) := qb.2 1 _ rfl; go_simp; try with_reducible rfl)
      simp only [Act.put, List.getElem_toArray, List.getElem_cons_zero, List.getElem_cons_succ, List.setIfInBounds_toArray, List.set_cons_zero, List.set_cons_succ]
      refine wpAnyH_take (i := 4) (v := ?_) rfl (by kernel_rfl) (by kernel_rfl) (by kernel_rfl) (fun _ _ _ h => h) (Or.inl ⟨by rfl, ?_⟩) (by assumption) ?_
      rotate_left
      · (intro wa hSw; obtain ⟨qa, qb, hb⟩ := OS.out _ hSw; have c0 : wa.cell? ⟨b, off + j * 2, none⟩ = some (.int .i64 x.home) := qa.2 0 _ rfl; have c1 : wa.cell? ⟨b, off + j * 2 + 1, none⟩ = some (.int .i64 x.away) := qa.2 1 _ rfl; have d0 : wa.cell? ⟨b', off' + j * 2, none⟩ = some (.int .i64 x.home) := qb.2 0 _ rfl; have d1 : wa.cell? ⟨b', off' + j * 2 + 1, none⟩ = some (.int .i64 x.away) := qb.2 1 _ rfl; go_simp; try with_reducible rfl)
      simp only [Act.put, List.getElem_toArray, List.getElem_cons_zero, List.getElem_cons_succ, List.setIfInBounds_toArray, List.set_cons_zero, List.set_cons_succ]
      refine wpAnyH_take (i := 5) (v := ?_) rfl (by kernel_rfl) (by kernel_rfl) (by kernel_rfl) (fun _ _ _ h => h) (Or.inl ⟨by rfl, ?_⟩) (by assumption) ?_
      rotate_left
      · (intro wa hSw; obtain ⟨qa, qb, hb⟩ := OS.out _ hSw; have c0 : wa.cell? ⟨b, off + j * 2, none⟩ = some (.int .i64 x.home) := qa.2 0 _ rfl; have c1 : wa.cell? ⟨b, off + j * 2 + 1, none⟩ = some (.int .i64 x.away) := qa.2 1 _ rfl; have d0 : wa.cell? ⟨b', off' + j * 2, none⟩ = some (.int .i64 x.home) := qb.2 0 _ rfl; have d1 : wa.cell? ⟨b', off' + j * 2 + 1, none⟩ = some (.int .i64 x.away) := qb.2 1 _ rfl; go_simp; try with_reducible rfl)
      simp only [Act.put, List.getElem_toArray, List.getElem_cons_zero, List.getElem_cons_succ, List.setIfInBounds_toArray, List.set_cons_zero, List.set_cons_succ]
      refine wpAnyH_take (i := 6) (v := ?_) rfl (by kernel_rfl) (by kernel_rfl) (by kernel_rfl) (fun _ _ _ h => h) (Or.inl ⟨by rfl, ?_⟩) (by assumption) ?_
      rotate_left
      · (intro wa hSw; obtain ⟨qa, qb, hb⟩ := OS.out _ hSw; have c0 : wa.cell? ⟨b, off + j * 2, none⟩ = some (.int .i64 x.home) := qa.2 0 _ rfl; have c1 : wa.cell? ⟨b, off + j * 2 + 1, none⟩ = some (.int .i64 x.away) := qa.2 1 _ rfl; have d0 : wa.cell? ⟨b', off' + j * 2, none⟩ = some (.int .i64 x.home) := qb.2 0 _ rfl; have d1 : wa.cell? ⟨b', off' + j * 2 + 1, none⟩ = some (.int .i64 x.away) := qb.2 1 _ rfl; go_simp; try with_reducible rfl)
      simp only [Act.put, List.getElem_toArray, List.getElem_cons_zero, List.getElem_cons_succ, List.setIfInBounds_toArray, List.set_cons_zero, List.set_cons_succ]
      refine wpAnyH_take (i := 7) (v := ?_) rfl (by kernel_rfl) (by kernel_rfl) (by kernel_rfl) (fun _ _ _ h => h) (Or.inl ⟨by rfl, ?_⟩) (by assumption) ?_
      rotate_left
      · (intro wa hSw; obtain ⟨qa, qb, hb⟩ := OS.out _ hSw; have c0 : wa.cell? ⟨b, off + j * 2, none⟩ = some (.int .i64 x.home) := qa.2 0 _ rfl; have c1 : wa.cell? ⟨b, off + j * 2 + 1, none⟩ = some (.int .i64 x.away) := qa.2 1 _ rfl; have d0 : wa.cell? ⟨b', off' + j * 2, none⟩ = some (.int .i64 x.home) := qb.2 0 _ rfl; have d1 : wa.cell? ⟨b', off' + j * 2 + 1, none⟩ = some (.int .i64 x.away) := qb.2 1 _ rfl; go_simp; try with_reducible rfl)
      simp only [Act.put, List.getElem_toArray, List.getElem_cons_zero, List.getElem_cons_succ, List.setIfInBounds_toArray, List.set_cons_zero, List.set_cons_succ]
      refine wpAnyH_ready (rs := [8]) (by kernel_rfl) (by simp) ?_
      refine AllReadyH.cons (o := _) rfl (fun K hK => ?_) AllReadyH.nil
      go_simp
      obtain ⟨qa, qb, hb⟩ := OS.out _ hHeld
      refine (x_eq_Pair x.home x.away _).mono ?_
      rintro e w101 ⟨rfl, b101⟩
      clear qa qb hb
      (try go_wp2_with fail)
      refine hK.out _ _ ?_ (fun hHeld101 => ?_)
      · exact KS.out _ _ hHeld b101
      clear hK K
      refine wpAnyH_take (i := 9) (v := ?_) rfl (by kernel_rfl) (by kernel_rfl) (by kernel_rfl) (fun _ _ _ h => h) (Or.inl ⟨by rfl, ?_⟩) (by assumption) ?_
      rotate_left
      · (intro wa hSw; obtain ⟨qa, qb, hb⟩ := OS.out _ hSw; have c0 : wa.cell? ⟨b, off + j * 2, none⟩ = some (.int .i64 x.home) := qa.2 0 _ rfl; have c1 : wa.cell? ⟨b, off + j * 2 + 1, none⟩ = some (.int .i64 x.away) := qa.2 1 _ rfl; have d0 : wa.cell? ⟨b', off' + j * 2, none⟩ = some (.int .i64 x.home) := qb.2 0 _ rfl; have d1 : wa.cell? ⟨b', off' + j * 2 + 1, none⟩ = some (.int .i64 x.away) := qb.2 1 _ rfl; go_simp; try with_reducible rfl)
      simp only [Act.put, List.getElem_toArray, List.getElem_cons_zero, List.getElem_cons_succ, List.setIfInBounds_toArray, List.set_cons_zero, List.set_cons_succ]
      refine wpAnyH_done (by kernel_rfl) ?_ _
      obtain ⟨qa, qb, hb⟩ := OS.out _ hHeld101
      clear KS OS hHeld hHeld101
      go_wp2
      go_roundw
      case rel => exact ⟨j + 1, by omega, by go_num, hb⟩
      case measure => simp [RowKit.intOf]; omega
    · go_wp2
      go_ret
      exact ⟨rfl, hb⟩
def pairMk (k : Int) (i : Nat) : PairD := ⟨k + 2 * (i : Int), k + 2 * (i : Int) + 1⟩
theorem tgrownPair {a b c : World} {row : Option Nat} (h : a.grownBy b row) (k : b.grownBy c row) : a.grownBy c row :=
  ⟨k.os.trans h.os, k.tape.trans h.tape, k.output.trans h.output, Nat.le_trans h.size k.size, fun i hi hne => (k.block i (Nat.lt_of_lt_of_le hi h.size) hne).trans (h.block i hi hne)⟩
set_option maxHeartbeats 1000000 in
theorem x_mk_PairS (v : Value) (n : Nat) (k : Int) (lo hi base : Nat) (xs : List Value) (w : World) (hown : w.ownsRow base 63 2 v n xs) (hin : InW lo hi v) (h0 : 0 < k) (hk : k + 2 * n ≤ 1000000000000) :
    Calls Try.prog 76 #[v, .int .i64 k] w fun e w' => e = .returned (.int .i64 (k + 2 * (n : Int))) ∧ PairRow w' v n (pairMk k) ∧ Touch lo hi w w' := by
  obtain ⟨a, cap, rfl, hv⟩ : ∃ a cap, v = .slice a n cap ∧ (0 < n → ∃ g, a = some ⟨g, 0, none⟩ ∧ base ≤ g) := by
    rcases hown.2 with ⟨rfl, rfl⟩ | ⟨g, cap, cur, rfl, hg, _⟩
    · exact ⟨_, _, rfl, fun h => absurd h (by omega)⟩
    · exact ⟨_, _, rfl, fun _ => ⟨g, rfl, hg⟩⟩
  have HV := Lib.hid hv
  have HI := Lib.hid hin
  clear hv hin
  go_enter Try.func76, Try.ntmps76
  go_wp2
  go_loopw [1, 5] (fun kv i wr => ∃ (j : Nat) (ys : List Value), j ≤ n ∧ i = .int .i64 j ∧ kv = .int .i64 (k + 2 * (j : Int)) ∧ wr.ownsRow base 63 2 (.slice a n cap) n ys ∧ Hid (RecCells 2 j ys fun i => (pairMk k i).cells) ∧ w.grownBy wr (Value.slice a n cap).ownBlock)
    (fun _ i _ => n - (RowKit.intOf i).toNat)
  case atStart => exact ⟨0, xs, Nat.zero_le _, rfl, by go_num, hown, RecCells.nil, ⟨rfl, rfl, rfl, Nat.le_refl _, fun _ _ _ => rfl⟩⟩
  case round =>
    obtain ⟨j, ys, hj, rfl, rfl, hown', hys, hgr⟩ := hrel
    clear hown
    by_cases hlt : j < n
    · obtain ⟨g, rfl, hg⟩ := HV.out (by omega)
      obtain ⟨u0, e0⟩ := owns_cellR hown' (j * 2) (by omega)
      have f0 := hown'.frozenAt (j * 2)
      obtain ⟨u1, e1⟩ := owns_cellR hown' (j * 2 + 1) (by omega)
      have f1 := hown'.frozenAt (j * 2 + 1)
      have HL := Lib.hid hown'.1
      clear HV
      go_wp2
      go_roundw
      case rel => exact ⟨j + 1, _, by omega, by go_num, by go_num, ((hown'.stored (j * 2) _).1.stored (j * 2 + 1) _).1, hys.out.sets (cs := [.int .i64 (k + 2 * (j : Int)), .int .i64 (k + 2 * (j : Int) + 1)]) HL.out hlt (by simp [pairMk, PairD.cells]) rfl (fun _ _ => Nat.le_refl _), tgrownPair (tgrownPair hgr (hown'.stored (j * 2) _).2) ((hown'.stored (j * 2) _).1.stored (j * 2 + 1) _).2⟩
      case measure => simp [RowKit.intOf]; omega
    · obtain rfl : j = n := by omega
      go_wp2
      go_ret
      exact ⟨rfl, RecRow.of_owns hown' (by omega) hys.out (fun _ _ => Nat.le_refl _), Touch.grown hgr HI.out⟩
set_option maxHeartbeats 1000000 in
theorem x_hd_PairS (v : Value) (n : Nat) (k : Int) (w : World) (h : PairRow w v n (pairMk k)) (h0 : 0 < k) (hk : k + 2 * n ≤ 1000000000000) :
    Calls Try.prog 77 #[v, .int .i64 k] w fun e w' => e = .returned (.int .i64 (k + 2 * (n : Int))) ∧ Below w.heap.size w w' := by
  obtain ⟨a, cap, rfl, _, hv⟩ := h.form
  have HV := Lib.hid hv
  clear hv h
  go_enter Try.func77, Try.ntmps77
  go_wp2
  go_loop [1, 5] (fun kv i => ∃ (j : Nat), j ≤ n ∧ i = .int .i64 j ∧ kv = .int .i64 (k + 2 * (j : Int)))
    (fun _ i => n - (RowKit.intOf i).toNat)
  case atStart => exact ⟨0, Nat.zero_le _, rfl, by go_num⟩
  case round =>
    obtain ⟨j, hj, rfl, rfl⟩ := hrel
    by_cases hlt : j < n
    · obtain ⟨b, off, rfl, _, hc⟩ := HV.out (by omega)
      have hq := hc j hlt
      have c0 : w.cell? ⟨b, off + j * 2, none⟩ = some (.int .i64 (k + 2 * (j : Int))) := hq.2 0 _ rfl
      have c1 : w.cell? ⟨b, off + j * 2 + 1, none⟩ = some (.int .i64 (k + 2 * (j : Int) + 1)) := hq.2 1 _ rfl
      clear hc HV hq
      go_wp2
      go_round
      case rel => exact ⟨j + 1, by omega, by go_num, by go_num⟩
      case measure => simp [RowKit.intOf]; omega
    · obtain rfl : j = n := by omega
      go_wp2
      go_ret
      exact ⟨rfl, Below.refl _ _⟩
section
open Go.ChangeShapes Go.WideShapes
variable {H : Type} {enc : TypeId × Value → H} {P : Program} {w : World} {base : Nat} {spare : Nat → Bool} {held : Bool}
theorem open_pairs {t e : TypeId} {f0 f1 : Field} {v : Value} (ht : P.underlying t = some (.slice e)) (he : P.underlying e = some (.struct #[f0, f1]))
    (ce : P.cellsOf e = 2) (o0 : f0.offset = 0) (c0 : P.cellsOf f0.type = 1) (u0 : P.underlying f0.type = some (.int .i64)) (o1 : f1.offset = 1) (c1 : P.cellsOf f1.type = 1) (u1 : P.underlying f1.type = some (.int .i64))
    (h : ∃ (fuel : Nat) (x : DataW H × List MemPlace), DataW.trod enc P w base spare held fuel t [v] = some x) : ∃ (n : Nat) (g : Nat → PairD), PairRow w v n g ∧ (∀ i, (g i).fit) ∧ n ≤ 9223372036854775807 := by
  obtain ⟨fuel, x, h⟩ := h
  have hz : (default : PairD).fit := by simp [PairD.fit, IntFit, default]
  rcases Go.Deep.open_slice ht h with ⟨h0, _⟩ | ⟨a, len, cap, m, q, D, Pl, h0, hb, hl, hm, hmm, rfl, hx⟩
  · simp only [List.cons.injEq, and_true] at h0
    subst h0
    exact ⟨0, fun _ => default, .inl ⟨_, _, rfl, rfl⟩, fun _ => hz, by omega⟩
  simp only [List.cons.injEq, and_true] at h0
  subst h0
  have hlm : len ≤ m := by rw [hmm]; split <;> omega
  have each : ∀ i, i < len → ∃ q : PairD, (∀ j u, q.cells[j]? = some u → w.cell? ((a.add (i * 2)).add j) = some u) ∧ q.fit := by
    intro i hi
    obtain ⟨cs', h1, h2⟩ := hx i (by omega)
    rw [ce] at h1
    obtain ⟨_, hlen, hcell⟩ := World.cells?_some h1
    obtain ⟨xs, kk, hk, hxy, _, hxl, hf⟩ := DataW.trod_struct he h2
    match xs, hxl, cs', hlen with
    | [y0, y1], _, [v0, v1], _ =>
      have g0 := hf 0 f0 rfl
      simp [o0, c0] at g0
      obtain ⟨z0, e0, _, k0⟩ := DataW.trod_int u0 g0
      simp only [List.cons.injEq, and_true] at e0
      subst e0
      have g1 := hf 1 f1 rfl
      simp [o1, c1] at g1
      obtain ⟨z1, e1, _, k1⟩ := DataW.trod_int u1 g1
      simp only [List.cons.injEq, and_true] at e1
      subst e1
      refine ⟨⟨z0, z1⟩, fun j u hu => ?_, ⟨intFit_of k0, intFit_of k1⟩⟩
      have hj : j < 2 := (List.getElem?_eq_some_iff.1 hu).1
      rw [hcell j hj]
      exact hu
  obtain ⟨g, hg⟩ := Go.Deep.choose_lt each
  have hfit : ∀ i, (if i < len then g i else default : PairD).fit := fun i => by
    by_cases hi : i < len
    · simpa [hi] using (hg i hi).2
    · simpa [hi] using hz
  unfold maxLen at hm
  refine ⟨len, fun i => if i < len then g i else default, ?_, hfit, by omega⟩
  by_cases h0 : len = 0
  · subst h0; exact .inl ⟨_, _, rfl, rfl⟩
  · have hc0 := (hg 0 (by omega)).1 0 _ rfl
    obtain ⟨b, off, spot⟩ := a
    have hspot : spot = none := by simpa [Addr.add] using World.cell?_spot hc0
    subst hspot
    have hadd : ∀ j, (⟨b, off, none⟩ : Addr).add j = ⟨b, off + j, none⟩ := fun j => by unfold Addr.add; split <;> simp_all
    have hadd2 : ∀ o j, (⟨b, o, none⟩ : Addr).add j = ⟨b, o + j, none⟩ := fun o j => by unfold Addr.add; split <;> simp_all
    simp only [hadd, hadd2] at hc0
    refine .inr ⟨b, off, cap, rfl, by omega, by omega, fun i hi => ⟨World.block_lt_of_cell? w _ hc0, fun j u hu => ?_⟩, hl⟩
    have := (hg i hi).1
    simp only [hadd, hadd2] at this
    simp only [hi, if_true] at hu
    exact this j u hu
end
section
open Go.ChangeShapes Go.WideShapes
variable {H : Type} {enc : TypeId × Value → H} {P : Program} {w : World} {base : Nat} {spare : Nat → Bool} {held : Bool}
theorem open_pair {r : Reach} {b0 : Nat} {e : TypeId} {f0 f1 : Field} {v : Value} {d : DataW H} {pl : List MemPlace} (he : P.underlying e = some (.struct #[f0, f1]))
    (ce : P.cellsOf e = 2) (o0 : f0.offset = 0) (c0 : P.cellsOf f0.type = 1) (u0 : P.underlying f0.type = some (.int .i64)) (o1 : f1.offset = 1) (c1 : P.cellsOf f1.type = 1) (u1 : P.underlying f1.type = some (.int .i64))
    (hv : Value.okWide P w r b0 e v) (h : DataW.Trod enc P w base spare held e v d pl) : ∃ q : PairD, v = q.val ∧ q.fit := by
  obtain ⟨cs, rfl, hsz⟩ := okWide_struct he hv
  obtain ⟨l⟩ := cs
  obtain ⟨fuel, h⟩ := h
  obtain ⟨xs, kk, hk, hxy, _, hxl, hf⟩ := DataW.trod_struct he h
  match xs, hxl, l, hsz.trans ce with
  | [y0, y1], _, [v0, v1], _ =>
      have g0 := hf 0 f0 rfl
      simp [Value.cells, o0, c0] at g0
      obtain ⟨z0, e0, _, k0⟩ := DataW.trod_int u0 g0
      simp only [List.cons.injEq, and_true] at e0
      subst e0
      have g1 := hf 1 f1 rfl
      simp [Value.cells, o1, c1] at g1
      obtain ⟨z1, e1, _, k1⟩ := DataW.trod_int u1 g1
      simp only [List.cons.injEq, and_true] at e1
      subst e1
      exact ⟨⟨z0, z1⟩, rfl, ⟨intFit_of k0, intFit_of k1⟩⟩
end
end Go.Proofs.Ytfkfolglfmmkoaa
set_option linter.unusedVariables false
namespace Go.Proofs.Ytfkfolglfmmkoaa
open Go.RowKit

def tPair : Ty := tTwo tInt tInt
def tPairS : Ty := tSl 63 tPair
theorem opens_Pair : Opens Try.prog 134 tPair := opens_struct Try.underlying134 (by kernel_rfl) ⟨rfl, _, _, rfl, (opens_int Try.underlying3 (by kernel_rfl)), ⟨rfl, (opens_int Try.underlying3 (by kernel_rfl))⟩⟩
theorem opens_PairS : Opens Try.prog 97 tPairS := opens_sl Try.underlying97 (by kernel_rfl) opens_Pair
def ofPair (x : tPair.D) : PairD := ⟨x.1, x.2⟩
def atPair (d : List tPair.D) (i : Nat) : PairD := ((d[i]?).map ofPair).getD default
theorem flat_Pair : FlatT tPair fun x => (ofPair x).cells := (flat_two flat_int flat_int)
theorem cells_Pair {d : List tPair.D} {i : Nat} (hi : i < d.length) : cellsAt (fun x => (ofPair x).cells) d i = (atPair d i).cells := by
  refine (cellsAt_lt (List.getElem?_eq_getElem hi)).trans ?_
  unfold atPair; rw [List.getElem?_eq_getElem hi]; rfl
theorem rd_PairS {w : World} {v : Value} {d : List tPair.D} : RdA tPairS w [v] d ↔ PairRow w v d.length (atPair d) := by
  have e := fun i (hi : i < d.length) => cells_Pair hi
  exact flat_Pair.rdA.trans ⟨fun h => RecRow.congr h e, fun h => RecRow.congr h fun i hi => (e i hi).symm⟩
theorem rdN_PairS {w : World} {lo hi : Nat} {v : Value} {d : List tPair.D} (h : PairRow w v d.length (atPair d)) (hi2 : InW lo hi v) : RdN tPairS w lo hi [v] d :=
  flat_Pair.reads (flat_Pair.row (rd_PairS.2 h)) fun _ q hq => hi2 q hq
theorem wt_PairS (d : List tPair.D) : tPairS.wt d = d.length := by
  show d.length + (d.map tPair.wt).sum = d.length
  have := sum_zero (f := tPair.wt) (fun _ => rfl) d
  omega
theorem mks_PairS (d : List tPair.D) : tPairS.mks d = 2 * d.length := sum_const (f := tPair.mks) (fun _ => rfl) d
theorem mkl_PairS (d : List tPair.D) (k : Int) : List.length (α := tPair.D) (tPairS.mkd k d) = d.length := mkList_len _ _ _ _
theorem mk_PairS (d : List tPair.D) (k : Int) (i : Nat) (hi : i < d.length) : atPair (tPairS.mkd k d) i = pairMk k i := by
  have h := mkList_get (mks := tPair.mks) (mkd := tPair.mkd) (m := 2) (fun _ => rfl) d k i
  have h2 : (mkList tPair.mks tPair.mkd k d)[i]? = some (tPair.mkd (k + ((2 : Nat) : Int) * i) d[i]) := by
    rw [h, List.getElem?_eq_getElem hi]; rfl
  unfold atPair
  refine (congrArg (fun o => (Option.map ofPair o).getD default) h2).trans ?_
  rfl
theorem own_PairS {w : World} {lo hi : Nat} {v : Value} {d : List tPair.D} {xs : List Value} (h : w.ownsRow lo 63 2 v d.length xs) (hr : PairRow w v d.length (atPair d)) (h1 : ∀ q, v.ownBlock = some q → q < hi) (hh : hi ≤ w.heap.size) : OwN tPairS w lo hi [v] d :=
  flat_Pair.made h (rd_PairS.2 hr) h1 hh
theorem y_sz_PairS (v : Value) (d : List tPair.D) (left : Int) (w : World) (hl0 : 0 ≤ left) (hl : left ≤ 1048576) (h : RdA tPairS w [v] d) : Calls Try.prog 68 #[v, .int .i64 left] w (SzT tPairS d left w) :=
  (x_sz_PairS v d.length (atPair d) left w hl0 hl (rd_PairS.1 h)).mono fun e w' ⟨⟨r, he, hr⟩, hb⟩ => ⟨⟨r, he, by rw [wt_PairS]; exact hr⟩, hb⟩
theorem y_to_PairS (v : Value) (d : List tPair.D) (w : World) (h : RdA tPairS w [v] d) (hw : tPairS.wt d ≤ 1048576) : Calls Try.prog 71 #[v] w (MadeT tPairS d w) :=
  (x_to_PairS v d.length (atPair d) w (rd_PairS.1 h) (by rw [wt_PairS] at hw; exact hw)).mono fun e w' ⟨v', he, hr, ⟨xs, ho⟩, hb⟩ => ⟨v', he, flat_Pair.made ho (rd_PairS.2 hr) (fun q hq => (ho.lt q hq).2) (Nat.le_refl _), hb⟩
theorem y_eq_PairS (v v' : Value) (d : List tPair.D) (w : World) (h : RdA tPairS w [v] d) (h' : RdA tPairS w [v'] d) : Calls Try.prog 72 #[v, v'] w fun e w' => e = .returned (.bool true) ∧ Below w.heap.size w w' :=
  x_eq_PairS v d.length (atPair d) v' w (rd_PairS.1 h) (rd_PairS.1 h')
theorem y_mk_PairS (v : Value) (d : List tPair.D) (k : Int) (lo hi : Nat) (w : World) (h : OwN tPairS w lo hi [v] d) (h0 : 0 < k) (hk : k + tPairS.mks d ≤ 1000000000000) : Calls Try.prog 76 #[v, .int .i64 k] w (MarkT tPairS [v] d k lo hi w) := by
  obtain ⟨⟨xs, ho, _⟩, hin⟩ := flat_Pair.owned h
  have hm := mks_PairS d
  have hm2 : k + 2 * (d.length : Int) ≤ 1000000000000 := by omega
  refine (x_mk_PairS v d.length k lo hi lo xs w ho hin h0 hm2).mono fun e w' ⟨he, hr, ht⟩ => ⟨by rw [he, hm]; congr 2 <;> omega, ?_, ht⟩
  refine rdN_PairS ?_ hin
  have h1 : RecRow 2 w' v d.length (fun i => (atPair (tPairS.mkd k d) i).cells) := RecRow.congr hr (fun i hi => by rw [mk_PairS d k i hi])
  rw [← mkl_PairS d k] at h1
  exact h1
theorem y_hd_PairS (v : Value) (d : List tPair.D) (k : Int) (w : World) (h : RdA tPairS w [v] (tPairS.mkd k d)) (h0 : 0 < k) (hk : k + tPairS.mks d ≤ 1000000000000) : Calls Try.prog 77 #[v, .int .i64 k] w (HeldT tPairS d k w) := by
  have hm := mks_PairS d
  have hm2 : k + 2 * (d.length : Int) ≤ 1000000000000 := by omega
  have hr : PairRow w v (List.length (α := tPair.D) (tPairS.mkd k d)) (atPair (tPairS.mkd k d)) := rd_PairS.1 h
  rw [mkl_PairS d k] at hr
  exact (x_hd_PairS v d.length k w (RecRow.congr hr (fun i hi => by rw [mk_PairS d k i hi])) h0 hm2).mono fun e w' ⟨he, hb⟩ => ⟨by rw [he, hm]; congr 2 <;> omega, hb⟩
theorem yb_mk_PairS (v : Value) (d : List tPair.D) (k : Int) (lo : Nat) (bs : List Nat) (w : World) (h : tPairS.Ow w lo [v] d bs) (hnd : bs.Nodup) (h0 : 0 < k) (hk : k + tPairS.mks d ≤ 1000000000000) : Calls Try.prog 76 #[v, .int .i64 k] w (MarkC tPairS [v] (tPairS.mkd k d) (tPairS.mks d) k bs w) :=
  flat_mark flat_Pair h fun lo hi ho => y_mk_PairS v d k lo hi w ho h0 hk
end Go.Proofs.Ytfkfolglfmmkoaa
set_option linter.unusedVariables false
namespace Go.Proofs.Ytfkfolglfmmkoaa
open Go.RowKit

def tPairSS : Ty := tSl 66 tPairS
theorem opens_PairSS : Opens Try.prog 46 tPairSS := opens_sl Try.underlying46 (by kernel_rfl) opens_PairS
set_option maxRecDepth 100000 in
set_option maxHeartbeats 2000000 in
theorem y_eq_PairSS (v v' : Value) (d : List tPairS.D) (w : World) (h : RdA tPairSS w [v] d) (h' : RdA tPairSS w [v'] d) : Calls Try.prog 30 #[v, v'] w fun e w' => e = .returned (.bool true) ∧ Below w.heap.size w w' := by
  obtain ⟨a, cap, rfl, hn⟩ := rd_row_form h
  obtain ⟨a', cap', rfl, _⟩ := rd_row_form h'
  have HV := Lib.hid h
  have HV' := Lib.hid h'
  clear h h'
  obtain ⟨n, hd⟩ : ∃ n, d.length = n := ⟨_, rfl⟩
  have HD := Lib.hid hd
  rw [hd] at hn HV HV'
  rw [hd]
  clear hd
  go_enter Try.func30, Try.ntmps30
  go_wp2
  go_loopw [5] (fun i wr => ∃ j : Nat, j ≤ n ∧ i = .int .i64 j ∧ Hid (Below w.heap.size w wr)) (fun i _ => n - (RowKit.intOf i).toNat)
  case atStart => exact ⟨0, Nat.zero_le _, rfl, Below.refl _ _⟩
  case round =>
    obtain ⟨j, hj, rfl, hb⟩ := hrel
    by_cases hlt : j < n
    · obtain ⟨y, hy⟩ : ∃ y, d[j]? = some y := ⟨_, List.getElem?_eq_getElem (by have := HD.out; omega)⟩
      obtain ⟨b, off, k, u, hv, hcap, hc, hu⟩ := rd_cell rfl (RdA.below HV.out hb.out) hy
      obtain ⟨b', off', k', u', hv', hcap', hc', hu'⟩ := rd_cell rfl (RdA.below HV'.out hb.out) hy
      simp only [Value.slice.injEq] at hv hv'
      obtain ⟨rfl, hv2, rfl⟩ := hv
      obtain ⟨rfl, hv2', rfl⟩ := hv'
      clear hv2 hv2'
      rw [HD.out] at hcap hcap'
      have hj0 : (0 : Int) ≤ (j : Int) := by omega
      have hj1 : (j : Int) < (n : Int) := by omega
      have HC := Lib.hid (And.intro hc (And.intro hu (And.intro hc' (And.intro hu' hb.out))))
      clear hc hu hc' hu' HV HV' hy hb
      obtain ⟨S, HSd⟩ : ∃ S : World → Prop, S = fun w' => CellsAt w' b (off + j) [u] ∧ RdA tPairS w' [u] y ∧ CellsAt w' b' (off' + j) [u'] ∧ RdA tPairS w' [u'] y ∧ Below w.heap.size w w' := ⟨_, rfl⟩
      have KS : Hid (∀ wa wb, S wa → Below wa.heap.size wa wb → S wb) := by subst HSd; exact fun wa wb h b => ⟨h.1.below b, h.2.1.below b, h.2.2.1.below b, h.2.2.2.1.below b, h.2.2.2.2.trans (b.mono h.2.2.2.2.size)⟩
      have OS : Hid (∀ wa, S wa → CellsAt wa b (off + j) [u] ∧ RdA tPairS wa [u] y ∧ CellsAt wa b' (off' + j) [u'] ∧ RdA tPairS wa [u'] y ∧ Below w.heap.size w wa) := by subst HSd; exact fun wa h => h
      have IS : Hid (∀ wa, CellsAt wa b (off + j) [u] ∧ RdA tPairS wa [u] y ∧ CellsAt wa b' (off' + j) [u'] ∧ RdA tPairS wa [u'] y ∧ Below w.heap.size w wa → S wa) := by subst HSd; exact fun wa h => h
      clear HSd
      go_wp2_with fail
      refine wp_region_held_drew (S := S) (by kernel_rfl) ?_ (fun hHeld => ?_)
      · exact IS.out _ ((fun (h : CellsAt wr b (off + j) [u] ∧ RdA tPairS wr [u] y ∧ CellsAt wr b' (off' + j) [u'] ∧ RdA tPairS wr [u'] y ∧ Below w.heap.size w wr) (b : Below wr.heap.size wr _) => ⟨h.1.below b, h.2.1.below b, h.2.2.1.below b, h.2.2.2.1.below b, h.2.2.2.2.trans (b.mono h.2.2.2.2.size)⟩) HC.out (Below.refl _ _).drew)
      refine wpAnyH_take (i := 0) (v := ?_) rfl (by kernel_rfl) (by kernel_rfl) (by kernel_rfl) (fun _ _ _ h => h) (Or.inl ⟨by rfl, ?_⟩) hHeld ?_
      rotate_left
      · (intro wa hSw; go_simp; try with_reducible rfl)
      simp only [Act.put, List.getElem_toArray, List.getElem_cons_zero, List.setIfInBounds_toArray, List.set_cons_zero, List.set_cons_succ]
      refine wpAnyH_take (i := 1) (v := ?_) rfl (by kernel_rfl) (by kernel_rfl) (by kernel_rfl) (fun _ _ _ h => h) (Or.inl ⟨by rfl, ?_⟩) hHeld ?_
      rotate_left
      · (intro wa hSw; go_simp; try with_reducible rfl)
      simp only [Act.put, List.getElem_toArray, List.getElem_cons_zero, List.getElem_cons_succ, List.setIfInBounds_toArray, List.set_cons_zero, List.set_cons_succ]
      refine wpAnyH_take (i := 2) (v := ?_) rfl (by kernel_rfl) (by kernel_rfl) (by kernel_rfl) (fun _ _ _ h => h) (Or.inl ⟨by rfl, ?_⟩) hHeld ?_
      rotate_left
      · (intro wa hSw; go_simp; try with_reducible rfl)
      simp only [Act.put, List.getElem_toArray, List.getElem_cons_zero, List.getElem_cons_succ, List.setIfInBounds_toArray, List.set_cons_zero, List.set_cons_succ]
      refine wpAnyH_take (i := 3) (v := ?_) rfl (by kernel_rfl) (by kernel_rfl) (by kernel_rfl) (fun _ _ _ h => h) (Or.inl ⟨by rfl, ?_⟩) hHeld ?_
      rotate_left
      · (intro wa hSw; have K := OS.out _ hSw; have c0 : wa.cell? ⟨b, off + j, none⟩ = some u := K.1.2 0 _ rfl; have c1 : wa.cell? ⟨b', off' + j, none⟩ = some u' := K.2.2.1.2 0 _ rfl; go_simp; try with_reducible rfl)
      simp only [Act.put, List.getElem_toArray, List.getElem_cons_zero, List.getElem_cons_succ, List.setIfInBounds_toArray, List.set_cons_zero, List.set_cons_succ]
      refine wpAnyH_take (i := 4) (v := ?_) rfl (by kernel_rfl) (by kernel_rfl) (by kernel_rfl) (fun _ _ _ h => h) (Or.inl ⟨by rfl, ?_⟩) hHeld ?_
      rotate_left
      · (intro wa hSw; go_simp; try with_reducible rfl)
      simp only [Act.put, List.getElem_toArray, List.getElem_cons_zero, List.getElem_cons_succ, List.setIfInBounds_toArray, List.set_cons_zero, List.set_cons_succ]
      refine wpAnyH_take (i := 5) (v := ?_) rfl (by kernel_rfl) (by kernel_rfl) (by kernel_rfl) (fun _ _ _ h => h) (Or.inl ⟨by rfl, ?_⟩) hHeld ?_
      rotate_left
      · (intro wa hSw; go_simp; try with_reducible rfl)
      simp only [Act.put, List.getElem_toArray, List.getElem_cons_zero, List.getElem_cons_succ, List.setIfInBounds_toArray, List.set_cons_zero, List.set_cons_succ]
      refine wpAnyH_take (i := 6) (v := ?_) rfl (by kernel_rfl) (by kernel_rfl) (by kernel_rfl) (fun _ _ _ h => h) (Or.inl ⟨by rfl, ?_⟩) hHeld ?_
      rotate_left
      · (intro wa hSw; go_simp; try with_reducible rfl)
      simp only [Act.put, List.getElem_toArray, List.getElem_cons_zero, List.getElem_cons_succ, List.setIfInBounds_toArray, List.set_cons_zero, List.set_cons_succ]
      refine wpAnyH_take (i := 7) (v := ?_) rfl (by kernel_rfl) (by kernel_rfl) (by kernel_rfl) (fun _ _ _ h => h) (Or.inl ⟨by rfl, ?_⟩) hHeld ?_
      rotate_left
      · (intro wa hSw; have K := OS.out _ hSw; have c0 : wa.cell? ⟨b, off + j, none⟩ = some u := K.1.2 0 _ rfl; have c1 : wa.cell? ⟨b', off' + j, none⟩ = some u' := K.2.2.1.2 0 _ rfl; go_simp; try with_reducible rfl)
      simp only [Act.put, List.getElem_toArray, List.getElem_cons_zero, List.getElem_cons_succ, List.setIfInBounds_toArray, List.set_cons_zero, List.set_cons_succ]
      refine wpAnyH_ready (rs := [8]) (by kernel_rfl) (by simp) ?_
      refine AllReadyH.cons (o := _) rfl (fun K hK => ?_) AllReadyH.nil
      go_simp
      have KK := OS.out _ hHeld
      refine (y_eq_PairS u u' y _ KK.2.1 KK.2.2.2.1).mono ?_
      rintro e w101 ⟨rfl, b101⟩
      clear KK
      (try go_wp2_with fail)
      refine hK.out _ _ ?_ (fun hHeld101 => ?_)
      · exact KS.out _ _ hHeld b101
      clear hK K
      refine wpAnyH_take (i := 9) (v := ?_) rfl (by kernel_rfl) (by kernel_rfl) (by kernel_rfl) (fun _ _ _ h => h) (Or.inl ⟨by rfl, ?_⟩) hHeld101 ?_
      rotate_left
      · (intro wa hSw; go_simp; try with_reducible rfl)
      simp only [Act.put, List.getElem_toArray, List.getElem_cons_zero, List.getElem_cons_succ, List.setIfInBounds_toArray, List.set_cons_zero, List.set_cons_succ]
      refine wpAnyH_done (by kernel_rfl) ?_ _
      have KE := Lib.hid (OS.out _ hHeld101)
      clear KS OS IS hHeld hHeld101
      have HE := Lib.hid KE.out.2.2.2.2
      clear KE HC
      go_wp2
      go_roundw
      case rel => exact ⟨j + 1, by omega, by go_num, HE.out⟩
      case measure => simp [RowKit.intOf]; omega
    · obtain rfl : j = n := by omega
      go_wp2
      go_ret
      exact ⟨rfl, hb.out⟩
set_option maxRecDepth 100000 in
set_option maxHeartbeats 2000000 in
theorem yb_mk_PairSS (v : Value) (d : List tPairS.D) (k : Int) (lo : Nat) (bs : List Nat) (w : World) (h : tPairSS.Ow w lo [v] d bs) (hnd : bs.Nodup) (h0 : 0 < k) (hk : k + tPairSS.mks d ≤ 1000000000000) : Calls Try.prog 36 #[v, .int .i64 k] w (MarkC tPairSS [v] (tPairSS.mkd k d) (tPairSS.mks d) k bs w) := by
  obtain ⟨f, us, R⟩ := RowsOw.of rfl h hnd
  obtain ⟨a, cap, rfl, hn⟩ := rd_row_form (tPairSS.ow_rd h)
  have HR := Lib.hid R
  have HM : Hid (tPairSS.mks d = (d.map tPairS.mks).sum) := rfl
  have HK := Lib.hid hk
  clear R h hnd hk
  obtain ⟨n, hd⟩ : ∃ n, d.length = n := ⟨_, rfl⟩
  have HD := Lib.hid hd
  rw [hd] at hn HR
  rw [hd]
  clear hd
  go_enter Try.func36, Try.ntmps36
  go_wp2
  go_loopw [1, 5] (fun kv i wr => ∃ j : Nat, j ≤ n ∧ i = .int .i64 j ∧ Hid (kv = .int .i64 (k + (((d.take j).map tPairS.mks).sum : Nat))) ∧ Hid (KeepB ((List.range j).flatMap f) w wr) ∧ Hid (∀ i y, i < j → d[i]? = some y → tPairS.Rd wr (fun q => q ∈ f i) [us i] (tPairS.mkd (k + (((d.take i).map tPairS.mks).sum : Nat)) y))) (fun _ i _ => n - (RowKit.intOf i).toNat)
  case atStart => exact ⟨0, Nat.zero_le _, rfl, (by show _ = _; simp), KeepB.refl _ _, fun i y hi => absurd hi (Nat.not_lt_zero _)⟩
  case round =>
    obtain ⟨j, hj, rfl, hkv, hkb, hrd⟩ := hrel
    by_cases hlt : j < n
    · obtain ⟨y, hy⟩ : ∃ y, d[j]? = some y := ⟨_, List.getElem?_eq_getElem (by have := HD.out; omega)⟩
      have hjl : j < d.length := (List.getElem?_eq_some_iff.1 hy).1
      have hin : ∀ q, q ∈ (List.range j).flatMap f → ∃ i, i < j ∧ q ∈ f i := fun q hq => by obtain ⟨i, hi, hqi⟩ := List.mem_flatMap.1 hq; exact ⟨i, List.mem_range.1 hi, hqi⟩
      obtain ⟨b, off, c, hv, hcap, hc⟩ := HR.out.cell hkb.out (fun q hq hqf => by obtain ⟨i, hi, hqi⟩ := hin q hqf; exact (HR.out.outer q hq).2 i (by omega) hqi) hjl
      have how := KeepB.ow (HR.out.own j y hy) hkb.out (fun q hq hqf => by obtain ⟨i, hi, hqi⟩ := hin q hqf; exact HR.out.apart i j (by omega) hjl (by omega) q hqi hq)
      have HW := Lib.hid how
      simp only [Value.slice.injEq] at hv
      obtain ⟨rfl, hv2, rfl⟩ := hv
      clear hv2
      rw [HD.out] at hcap
      have hts := take_sum (f := tPairS.mks) hy
      have hle := take_sum_le (f := tPairS.mks) (L := d) (j + 1)
      obtain ⟨K, hK⟩ : ∃ K : Int, k + (((d.take j).map tPairS.mks).sum : Nat) = K := ⟨_, rfl⟩
      have hkk := HK.out
      rw [HM.out] at hkk
      have hK0 : 0 < K := by omega
      have hKk : K + (tPairS.mks y : Nat) ≤ 1000000000000 := by omega
      have HK2 : Hid (K + (tPairS.mks y : Nat) = k + (((d.take (j + 1)).map tPairS.mks).sum : Nat)) := (by show _ = _; omega)
      have HKj : Hid (k + (((d.take j).map tPairS.mks).sum : Nat) = K) := hK
      have hkv2 := hkv.out
      rw [hK] at hkv2
      subst hkv2
      clear hts hle hkk hK hin how hkv
      go_wp2_with fail
      refine (yb_mk_PairS (us j) y K lo (f j) wr HW.out (HR.out.nodup j hjl) hK0 hKk).mono ?_
      rintro e w1 ⟨rfl, hr1, hk1⟩
      have HR1 := Lib.hid hr1
      have HKB := Lib.hid (hkb.out.trans hk1)
      have HK1 := Lib.hid hk1
      clear hr1 hk1 hc
      go_wp2
      go_roundw
      case rel =>
        refine ⟨j + 1, by omega, by go_num, (by show _ = _; rw [HK2.out]), (by show KeepB _ _ _; rw [range_flat_succ]; exact HKB.out), fun i z hi hz => ?_⟩
        by_cases hij : i = j
        · subst hij
          rw [hy] at hz
          cases hz
          rw [HKj.out]
          exact HR1.out
        · exact KeepB.rd (hrd.out i z (by omega) hz) HK1.out (HR.out.apart i j (by omega) hjl hij)
      case measure => simp [RowKit.intOf]; omega
    · obtain rfl : j = n := by omega
      have hdone := RowsOw.done rfl (HR.out) (k := k) (w' := wr) (by rw [HD.out]; exact hkb.out) (fun i y hy => hrd.out i y (by have := (List.getElem?_eq_some_iff.1 hy).1; have := HD.out; omega) hy)
      have HF := Lib.hid hdone
      have hkv2 := hkv.out
      rw [List.take_of_length_le (by have := HD.out; omega)] at hkv2
      subst hkv2
      clear hdone hkv
      go_wp2
      go_ret
      exact ⟨(congrArg (fun z : Nat => Ending.returned (.int .i64 (k + (z : Int)))) HM.out).symm, HF.out.1, HF.out.2⟩
theorem y_mk_PairSS (v : Value) (d : List tPairS.D) (k : Int) (lo hi : Nat) (w : World) (h : OwN tPairSS w lo hi [v] d) (h0 : 0 < k) (hk : k + tPairSS.mks d ≤ 1000000000000) : Calls Try.prog 36 #[v, .int .i64 k] w (MarkT tPairSS [v] d k lo hi w) :=
  mark_windowC h fun bs ho hnd => yb_mk_PairSS v d k lo bs w ho hnd h0 hk
set_option maxRecDepth 100000 in
set_option maxHeartbeats 2000000 in
theorem y_hd_PairSS (v : Value) (d : List tPairS.D) (k : Int) (w : World) (h : RdA tPairSS w [v] (tPairSS.mkd k d)) (h0 : 0 < k) (hk : k + tPairSS.mks d ≤ 1000000000000) : Calls Try.prog 38 #[v, .int .i64 k] w (HeldT tPairSS d k w) := by
  obtain ⟨a, cap, rfl, hn⟩ := rd_row_form h
  have HV := Lib.hid h
  have HM : Hid (tPairSS.mks d = (d.map tPairS.mks).sum) := rfl
  have HK := Lib.hid hk
  have hln : List.length (α := tPairS.D) (tPairSS.mkd k d) = d.length := mkList_len _ _ _ _
  rw [hln] at hn HV
  rw [hln]
  have HL := Lib.hid hln
  clear h hk hln
  obtain ⟨n, hd⟩ : ∃ n, d.length = n := ⟨_, rfl⟩
  have HD := Lib.hid hd
  rw [hd] at hn HV
  rw [hd]
  clear hd
  go_enter Try.func38, Try.ntmps38
  go_wp2
  go_loopw [1, 5] (fun kv i wr => ∃ j : Nat, j ≤ n ∧ i = .int .i64 j ∧ Hid (kv = .int .i64 (k + (((d.take j).map tPairS.mks).sum : Nat))) ∧ Hid (Below w.heap.size w wr)) (fun _ i _ => n - (RowKit.intOf i).toNat)
  case atStart => exact ⟨0, Nat.zero_le _, rfl, (by show _ = _; simp), Below.refl _ _⟩
  case round =>
    obtain ⟨j, hj, rfl, hkv, hb⟩ := hrel
    by_cases hlt : j < n
    · obtain ⟨y, hy⟩ : ∃ y, d[j]? = some y := ⟨_, List.getElem?_eq_getElem (by have := HD.out; omega)⟩
      have hmy : (mkList tPairS.mks tPairS.mkd k d)[j]? = some (tPairS.mkd (k + (((d.take j).map tPairS.mks).sum : Nat)) y) := by rw [mkList_at, hy]; rfl
      obtain ⟨b, off, c, u, hv, hcap, hc, hu⟩ := rd_cell rfl (RdA.below HV.out hb.out) hmy
      simp only [Value.slice.injEq] at hv
      obtain ⟨rfl, hv2, rfl⟩ := hv
      clear hv2
      rw [HL.out, HD.out] at hcap
      have hts := take_sum (f := tPairS.mks) hy
      have hle := take_sum_le (f := tPairS.mks) (L := d) (j + 1)
      obtain ⟨K, hK⟩ : ∃ K : Int, k + (((d.take j).map tPairS.mks).sum : Nat) = K := ⟨_, rfl⟩
      have hkk := HK.out
      rw [HM.out] at hkk
      have hK0 : 0 < K := by omega
      have hKk : K + (tPairS.mks y : Nat) ≤ 1000000000000 := by omega
      have HK2 : Hid (K + (tPairS.mks y : Nat) = k + (((d.take (j + 1)).map tPairS.mks).sum : Nat)) := (by show _ = _; omega)
      have hkv2 := hkv.out
      rw [hK] at hkv2 hu
      subst hkv2
      have HU := Lib.hid hu
      have c0 : wr.cell? ⟨b, off + j, none⟩ = some u := hc.2 0 _ rfl
      have g7 : decide (K + (tPairS.mks y : Nat) < 0) = false := decide_eq_false (by omega)
      clear hts hle hkk hK hkv hu hmy hc
      go_wp2_with fail
      refine (y_hd_PairS u y K wr HU.out hK0 hKk).mono ?_
      rintro e w1 ⟨rfl, hb1⟩
      have HB := Lib.hid (hb.out.trans (hb1.mono hb.out.size))
      clear hb1 c0
      go_wp2
      go_roundw
      case rel => exact ⟨j + 1, by omega, by go_num, (by show _ = _; rw [HK2.out]), HB.out⟩
      case measure => simp [RowKit.intOf]; omega
    · obtain rfl : j = n := by omega
      have hkv2 := hkv.out
      rw [List.take_of_length_le (by have := HD.out; omega)] at hkv2
      subst hkv2
      clear hkv
      go_wp2
      go_ret
      exact ⟨(congrArg (fun z : Nat => Ending.returned (.int .i64 (k + (z : Int)))) HM.out).symm, hb.out⟩
end Go.Proofs.Ytfkfolglfmmkoaa
set_option linter.unusedVariables false
namespace Go.Proofs.Ytfkfolglfmmkoaa
open Go.RowKit

theorem hasP_mem (L : List Int) (x : Int) : hasP (getI L) x L.length ↔ x ∈ L := by
  constructor
  · rintro ⟨j, hj, rfl⟩
    simp only [getI, List.getD_eq_getElem?_getD, List.getElem?_eq_getElem hj, Option.getD_some]
    exact List.getElem_mem hj
  · intro h
    obtain ⟨j, hj, he⟩ := List.getElem_of_mem h
    exact ⟨j, hj, by simp only [getI, List.getD_eq_getElem?_getD, List.getElem?_eq_getElem hj, Option.getD_some]; exact he⟩
theorem owns_form {w : World} {base : Nat} {e : TypeId} {size : Nat} {v : Value} {n : Nat} {xs : List Value} (h : w.ownsRow base e size v n xs) : ∃ a c, v = .slice a n c := by
  rcases h.2 with ⟨rfl, h0⟩ | ⟨b, cap, cur, rfl, _⟩
  · exact ⟨none, 0, by rw [h0]⟩
  · exact ⟨_, _, rfl⟩
end Go.Proofs.Ytfkfolglfmmkoaa
set_option linter.unusedVariables false
namespace Go.Proofs.Ytfkfolglfmmkoaa
open Go.RowKit

structure TeamD where
  nm : ByteArray
  club : Int
  seed : Int
def TeamD.val (t : TeamD) : Value := .agg #[.string t.nm, .int .i64 t.club, .int .i64 t.seed]
def TeamD.cells (t : TeamD) : List Value := [.string t.nm, .int .i64 t.club, .int .i64 t.seed]
def TeamRow (w : World) (v : Value) (n : Nat) (g : Nat → TeamD) : Prop :=
  (∃ a cap, v = .slice a 0 cap ∧ n = 0) ∨ ∃ b off cap, v = .slice (some ⟨b, off, none⟩) n cap ∧ 0 < n ∧ n ≤ 9223372036854775807 ∧
    (∀ i, i < n → w.cell? ⟨b, off + i * 3, none⟩ = some (.string (g i).nm) ∧ w.cell? ⟨b, off + i * 3 + 1, none⟩ = some (.int .i64 (g i).club) ∧ w.cell? ⟨b, off + i * 3 + 2, none⟩ = some (.int .i64 (g i).seed)) ∧ n ≤ cap
theorem TeamRow.form {w : World} {v : Value} {n : Nat} {g : Nat → TeamD} (h : TeamRow w v n g) :
    ∃ a cap, v = .slice a n cap ∧ n ≤ 9223372036854775807 ∧ (0 < n → ∃ b off, a = some ⟨b, off, none⟩ ∧
      ∀ i, i < n → w.cell? ⟨b, off + i * 3, none⟩ = some (.string (g i).nm) ∧ w.cell? ⟨b, off + i * 3 + 1, none⟩ = some (.int .i64 (g i).club) ∧ w.cell? ⟨b, off + i * 3 + 2, none⟩ = some (.int .i64 (g i).seed)) := by
  rcases h with ⟨a, cap, rfl, rfl⟩ | ⟨b, off, cap, rfl, _, hn, hc, _⟩
  · exact ⟨_, _, rfl, by omega, fun h => absurd h (by omega)⟩
  · exact ⟨_, _, rfl, hn, fun _ => ⟨b, off, rfl, hc⟩⟩

def SzTeamPost (t : TeamD) (left : Int) (w : World) (e : Ending) (w' : World) : Prop :=
  (∃ r : Int, e = .returned (.int .i64 r) ∧ ((left < t.nm.size ∧ r < 0) ∨ (0 ≤ r ∧ t.nm.size + r = left))) ∧ Below w.heap.size w w'
def totT (g : Nat → TeamD) : Nat → Nat
  | 0 => 0
  | k + 1 => totT g k + (g k).nm.size
def SzTeamsPost (g : Nat → TeamD) (n left : Nat) (w : World) (e : Ending) (w' : World) : Prop :=
  (∃ r : Int, e = .returned (.int .i64 r) ∧ (r < 0 ∨ (0 ≤ r ∧ n + totT g n + r = left))) ∧ Below w.heap.size w w'
theorem cells_below {w wr : World} {b off j : Nat} {t : TeamD} (hb : Below w.heap.size w wr) (h : w.cell? ⟨b, off + j * 3, none⟩ = some (.string t.nm) ∧ w.cell? ⟨b, off + j * 3 + 1, none⟩ = some (.int .i64 t.club) ∧ w.cell? ⟨b, off + j * 3 + 2, none⟩ = some (.int .i64 t.seed)) :
    wr.cell? ⟨b, off + j * 3, none⟩ = some (.string t.nm) ∧ wr.cell? ⟨b, off + j * 3 + 1, none⟩ = some (.int .i64 t.club) ∧ wr.cell? ⟨b, off + j * 3 + 2, none⟩ = some (.int .i64 t.seed) := by
  have hblt : b < w.heap.size := World.block_lt_of_cell? w _ h.1
  exact ⟨(hb.cell (p := ⟨b, off + j * 3, none⟩) hblt).trans h.1, (hb.cell (p := ⟨b, off + j * 3 + 1, none⟩) hblt).trans h.2.1, (hb.cell (p := ⟨b, off + j * 3 + 2, none⟩) hblt).trans h.2.2⟩

theorem TeamRow.of_owns {w : World} {base : Nat} {e : TypeId} {v : Value} {n : Nat} {xs : List Value} {g : Nat → TeamD} (h : w.ownsRow base e 3 v n xs) (hn : n ≤ 9223372036854775807)
    (hg : ∀ t, t < n → xs[t * 3]? = some (.string (g t).nm) ∧ xs[t * 3 + 1]? = some (.int .i64 (g t).club) ∧ xs[t * 3 + 2]? = some (.int .i64 (g t).seed)) : TeamRow w v n g := by
  by_cases h0 : n = 0
  · subst h0
    rcases h.2 with ⟨rfl, _⟩ | ⟨b, cap, cur, rfl, _⟩
    · exact .inl ⟨_, _, rfl, rfl⟩
    · exact .inl ⟨_, _, rfl, rfl⟩
  · rcases h.2 with ⟨_, hz⟩ | ⟨b, cap, cur, rfl, _, _, hcap, _⟩
    · exact absurd hz h0
    · refine .inr ⟨b, 0, cap, rfl, by omega, hn, fun i hi => ?_, hcap⟩
      obtain ⟨h1, h2, h3⟩ := hg i hi
      simp only [Nat.zero_add]
      exact ⟨by rw [h.cellAt _ (by omega)]; exact h1, by rw [h.cellAt _ (by omega)]; exact h2, by rw [h.cellAt _ (by omega)]; exact h3⟩
theorem tgrown_trans {a b c : World} {row : Option Nat} (h : a.grownBy b row) (k : b.grownBy c row) : a.grownBy c row :=
  ⟨k.os.trans h.os, k.tape.trans h.tape, k.output.trans h.output, Nat.le_trans h.size k.size, fun i hi hne => (k.block i (Nat.lt_of_lt_of_le hi h.size) hne).trans (h.block i hi hne)⟩
theorem tgrown_any {a b : World} (h : a.grownBy b none) (row : Option Nat) : a.grownBy b row := ⟨h.os, h.tape, h.output, h.size, fun i hi _ => h.block i hi (by simp)⟩
theorem tgrown_refl (a : World) (row : Option Nat) : a.grownBy a row := ⟨rfl, rfl, rfl, Nat.le_refl _, fun _ _ _ => rfl⟩
end Go.Proofs.Ytfkfolglfmmkoaa
set_option linter.unusedVariables false
namespace Go.Proofs.Ytfkfolglfmmkoaa
open Go.RowKit

theorem bytes_ne {x y : ByteArray} (h : x ≠ y) : (x.toList == y.toList) = false := by
  rw [beq_eq_false_iff_ne, ne_eq, ByteArray.toList_eq, ByteArray.toList_eq]
  exact fun e => h (ByteArray.ext (Array.toList_inj.mp e))
def teamP (t : TeamD) : Prop := nameB t.nm = true ∧ (0 ≤ t.club ∧ t.club ≤ 5) ∧ (1 ≤ t.seed ∧ t.seed ≤ 8)
def namedI (g : Nat → TeamD) (x : ByteArray) : Nat → Nat → Int
  | 0, _ => -1
  | r + 1, k => if (g k).nm = x then (k : Int) else namedI g x r (k + 1)
theorem var3 {w w2 : World} {t : TypeId} {a b c : Value} (h : Below (w.alloc (.cells #[a, b, c] t)).heap.size (w.alloc (.cells #[a, b, c] t)) w2) :
    w2.cell? ⟨w.heap.size, 0, none⟩ = some a ∧ w2.cell? ⟨w.heap.size, 1, none⟩ = some b ∧ w2.cell? ⟨w.heap.size, 2, none⟩ = some c := by
  have key : ∀ (j : Nat) (u : Value), #[a, b, c][j]? = some u → w2.cell? ⟨w.heap.size, j, none⟩ = some u := by
    intro j u hu
    have h0 : (w.alloc (.cells #[a, b, c] t)).cell? ⟨w.heap.size, j, none⟩ = some u := by
      rw [cell_of_row _ w.heap.size j #[a, b, c] t (0, 0) (heap_alloc_new w _)]
      exact hu
    exact (h.cell (p := ⟨w.heap.size, j, none⟩) (World.block_lt_of_cell? _ _ h0)).trans h0
  exact ⟨key 0 a rfl, key 1 b rfl, key 2 c rfl⟩
theorem var3_below {w w2 : World} {B : Nat} {a b c : Value} (k0 : w.cell? ⟨B, 0, none⟩ = some a) (k1 : w.cell? ⟨B, 1, none⟩ = some b) (k2 : w.cell? ⟨B, 2, none⟩ = some c) (h : Below w.heap.size w w2) :
    w2.cell? ⟨B, 0, none⟩ = some a ∧ w2.cell? ⟨B, 1, none⟩ = some b ∧ w2.cell? ⟨B, 2, none⟩ = some c := by
  have hlt : B < w.heap.size := World.block_lt_of_cell? w _ k0
  exact ⟨(h.cell (p := ⟨B, 0, none⟩) hlt).trans k0, (h.cell (p := ⟨B, 1, none⟩) hlt).trans k1, (h.cell (p := ⟨B, 2, none⟩) hlt).trans k2⟩
theorem TeamRow.take {w : World} {b off cap n : Nat} {g : Nat → TeamD} (k : Nat) (hk : k ≤ n) (hn : n ≤ 9223372036854775807) (hcap : n ≤ cap)
    (h : ∀ i, i < n → w.cell? ⟨b, off + i * 3, none⟩ = some (.string (g i).nm) ∧ w.cell? ⟨b, off + i * 3 + 1, none⟩ = some (.int .i64 (g i).club) ∧ w.cell? ⟨b, off + i * 3 + 2, none⟩ = some (.int .i64 (g i).seed)) :
    TeamRow w (.slice (some ⟨b, off, none⟩) k cap) k g := by
  by_cases h0 : k = 0
  · subst h0; exact .inl ⟨_, _, rfl, rfl⟩
  · exact .inr ⟨b, off, cap, rfl, by omega, by omega, fun i hi => h i (by omega), by omega⟩
theorem TeamRow.form' {w : World} {v : Value} {n : Nat} {g : Nat → TeamD} (h : TeamRow w v n g) :
    ∃ a cap, v = .slice a n cap ∧ n ≤ 9223372036854775807 ∧ (0 < n → ∃ b off, a = some ⟨b, off, none⟩ ∧ n ≤ cap ∧
      ∀ i, i < n → w.cell? ⟨b, off + i * 3, none⟩ = some (.string (g i).nm) ∧ w.cell? ⟨b, off + i * 3 + 1, none⟩ = some (.int .i64 (g i).club) ∧ w.cell? ⟨b, off + i * 3 + 2, none⟩ = some (.int .i64 (g i).seed)) := by
  rcases h with ⟨a, cap, rfl, rfl⟩ | ⟨b, off, cap, rfl, _, hn, hc, hcap⟩
  · exact ⟨_, _, rfl, by omega, fun h => absurd h (by omega)⟩
  · exact ⟨_, _, rfl, hn, fun _ => ⟨b, off, rfl, hcap, hc⟩⟩

def freshP (g : Nat → TeamD) (i : Nat) : Prop := teamP (g i) ∧ ∀ j, j < i → (g j).nm ≠ (g i).nm ∧ (g j).seed ≠ (g i).seed
def fieldP (n : Nat) (g : Nat → TeamD) : Prop := (2 ≤ n ∧ n ≤ 8) ∧ ∀ i, i < n → freshP g i
end Go.Proofs.Ytfkfolglfmmkoaa
set_option linter.unusedVariables false
namespace Go.Proofs.Ytfkfolglfmmkoaa
open Go.RowKit

def NumsMade (w : World) (L : List Int) (e : Ending) (w' : World) : Prop :=
  ∃ v, e = .returned v ∧ w'.ownsRow w.heap.size 3 1 v L.length (L.map (Value.int .i64)) ∧ Below w.heap.size w w'
def selL (f : Nat → Int) (c : Int) : Nat → List Int
  | 0 => []
  | k + 1 => selL f c k ++ if f k = c then [(k : Int)] else []
theorem selL_yes {f : Nat → Int} {c : Int} {k : Nat} (h : f k = c) : selL f c (k + 1) = selL f c k ++ [(k : Int)] := by simp [selL, h]
theorem selL_no {f : Nat → Int} {c : Int} {k : Nat} (h : f k ≠ c) : selL f c (k + 1) = selL f c k := by simp [selL, h]
theorem selL_len (f : Nat → Int) (c : Int) : ∀ k, (selL f c k).length ≤ k
  | 0 => Nat.le_refl _
  | k + 1 => by
    have := selL_len f c k
    by_cases h : f k = c
    · rw [selL_yes h]; simp; omega
    · rw [selL_no h]; omega

def seedsL (f : Nat → Int) (n : Nat) : Nat → List Int
  | 0 => []
  | s + 1 => seedsL f n s ++ selL f ((s : Int) + 1) n
def clubsN (g : Nat → TeamD) (n : Nat) : Nat → Nat
  | 0 => 0
  | c + 1 => clubsN g n c + if 0 < (selL (fun i => (g i).club) (c : Int) n).length then 1 else 0
theorem clubsN_le (g : Nat → TeamD) (n : Nat) : ∀ c, clubsN g n c ≤ c
  | 0 => Nat.le_refl _
  | c + 1 => by
    have := clubsN_le g n c
    unfold clubsN
    split <;> omega
theorem TeamRow.below {w w' : World} {B : Nat} {v : Value} {n : Nat} {g : Nat → TeamD} (h : TeamRow w v n g) (hb : Below B w w') (hB : w.heap.size ≤ B) : TeamRow w' v n g := by
  rcases h with h | ⟨b, off, cap, h1, h0, h2, h3, h4⟩
  · exact .inl h
  · refine .inr ⟨b, off, cap, h1, h0, h2, fun i hi => ?_, h4⟩
    obtain ⟨k0, k1, k2⟩ := h3 i hi
    have hlt := Nat.lt_of_lt_of_le (World.block_lt_of_cell? w _ k0) hB
    exact ⟨(hb.cell (p := ⟨b, off + i * 3, none⟩) hlt).trans k0, (hb.cell (p := ⟨b, off + i * 3 + 1, none⟩) hlt).trans k1, (hb.cell (p := ⟨b, off + i * 3 + 2, none⟩) hlt).trans k2⟩
theorem TeamRow.drewN {w : World} {v : Value} {n q : Nat} {g : Nat → TeamD} (h : TeamRow w v n g) : TeamRow (w.drewN q) v n g := by
  rcases h with h | ⟨b, off, cap, h1, h0, h2, h3, h4⟩
  · exact .inl h
  · exact .inr ⟨b, off, cap, h1, h0, h2, fun i hi => by simp only [World.cell?_drewN]; exact h3 i hi, h4⟩
theorem NumsMade.form {w w' : World} {L : List Int} {e : Ending} (h : NumsMade w L e w') :
    ∃ a cap, e = .returned (.slice a L.length cap) ∧ w'.ownsRow w.heap.size 3 1 (.slice a L.length cap) L.length (L.map (Value.int .i64)) ∧ Below w.heap.size w w' := by
  obtain ⟨v, rfl, hown, hb⟩ := h
  rcases hown.2 with ⟨rfl, h0⟩ | ⟨g, cap, cur, rfl, _⟩
  · cases L with
    | nil => exact ⟨_, _, rfl, hown, hb⟩
    | cons => simp at h0
  · exact ⟨_, _, rfl, hown, hb⟩
theorem seedsL_len (f : Nat → Int) (n : Nat) : ∀ s, (seedsL f n s).length ≤ s * n
  | 0 => by simp [seedsL]
  | s + 1 => by
    have h1 := seedsL_len f n s
    have h2 := selL_len f ((s : Int) + 1) n
    unfold seedsL
    rw [List.length_append, Nat.succ_mul]
    omega
end Go.Proofs.Ytfkfolglfmmkoaa
set_option linter.unusedVariables false
namespace Go.Proofs.Ytfkfolglfmmkoaa
open Go.RowKit

structure BookD where
  nf : Nat
  f : Nat → TeamD
  win : Int
  draw : Int
  loss : Int
  nl : Nat
  l : Nat → Int
  again : Bool
  m : Nat
  g : Nat → GameD
  nfa : Nat
  fa : Nat → Int
  nta : Nat
  ta : Nat → Int
def BookRow (w : World) (vf vl vg vfa vta : Value) (b : BookD) : Prop :=
  TeamRow w vf b.nf b.f ∧ IntRow w vl b.nl b.l ∧ GameRow w vg b.m b.g ∧ IntRow w vfa b.nfa b.fa ∧ IntRow w vta b.nta b.ta
theorem BookRow.below {w w' : World} {B : Nat} {vf vl vg vfa vta : Value} {b : BookD} (h : BookRow w vf vl vg vfa vta b) (hb : Below B w w') (hB : w.heap.size ≤ B) : BookRow w' vf vl vg vfa vta b :=
  ⟨h.1.below hb hB, h.2.1.below hb hB, h.2.2.1.below hb hB, h.2.2.2.1.below hb hB, h.2.2.2.2.below hb hB⟩
theorem BookRow.form {w : World} {vf vl vg vfa vta : Value} {b : BookD} (h : BookRow w vf vl vg vfa vta b) :
    ∃ fa fc la lc ga gc qa qc ta tc, vf = .slice fa b.nf fc ∧ vl = .slice la b.nl lc ∧ vg = .slice ga b.m gc ∧ vfa = .slice qa b.nfa qc ∧ vta = .slice ta b.nta tc := by
  obtain ⟨fa, fc, h1, _⟩ := h.1.form
  obtain ⟨la, lc, h2, _⟩ := h.2.1.form
  obtain ⟨ga, gc, h3, _⟩ := h.2.2.1.form
  obtain ⟨qa, qc, h4, _⟩ := h.2.2.2.1.form
  obtain ⟨ta, tc, h5, _⟩ := h.2.2.2.2.form
  exact ⟨fa, fc, la, lc, ga, gc, qa, qc, ta, tc, h1, h2, h3, h4, h5⟩
def pensP (b : BookD) (i : Nat) : Prop := (0 ≤ b.fa i ∧ b.fa i ≤ 1000) ∧ (0 ≤ b.ta i ∧ b.ta i ≤ 1000)
def bookP (b : BookD) : Prop := fieldP b.nf b.f ∧ rulesP b.win b.draw b.loss b.nl b.l ∧ seasonP b.nf b.m b.g ∧ b.nfa = b.nf ∧ b.nta = b.nf ∧ ∀ i, i < b.nf → pensP b i
theorem int_at {w : World} {a : Option Addr} {n c k : Nat} {g : Nat → Int} (h : IntRow w (.slice a n c) n g) (hk : k < n) : ∃ bo off, a = some ⟨bo, off, none⟩ ∧ n ≤ c ∧ w.cell? ⟨bo, off + k, none⟩ = some (.int .i64 (g k)) := by
  rcases h with ⟨_, _, _, h1⟩ | ⟨b', off, c', he, _, h3, hc, _⟩
  · omega
  · simp only [Value.slice.injEq, true_and] at he
    obtain ⟨rfl, rfl⟩ := he
    exact ⟨b', off, rfl, by omega, hc k hk⟩

end Go.Proofs.Ytfkfolglfmmkoaa
set_option linter.unusedVariables false
namespace Go.Proofs.Ytfkfolglfmmkoaa
open Go.RowKit

abbrev PairL := List tPair.D
def hm (p : tPair.D) : Int := p.1
def aw (p : tPair.D) : Int := p.2
def venueL : PairL → Int → Int
  | [], _ => 0
  | p :: r, x => if hm p = x then 1 else if aw p = x then 2 else venueL r x
theorem venueL_cons (p : tPair.D) (r : PairL) (x : Int) : venueL (p :: r) x = if hm p = x then 1 else if aw p = x then 2 else venueL r x := rfl
theorem drop_at {α : Type} {L : List α} {i : Nat} {x : α} (h : L[i]? = some x) : L.drop i = x :: L.drop (i + 1) := by
  obtain ⟨hl, rfl⟩ := List.getElem?_eq_some_iff.1 h
  exact List.drop_eq_getElem_cons hl
theorem pair_cells {w : World} {a : Option Addr} {c : Nat} {r : PairL} (h : RdA tPairS w [.slice a (List.length (α := tPair.D) r) c] r) {i : Nat} {p : tPair.D} (hp : r[i]? = some p) :
    ∃ b off, a = some ⟨b, off, none⟩ ∧ r.length ≤ c ∧ w.cell? ⟨b, off + i * 2, none⟩ = some (.int .i64 (hm p)) ∧ w.cell? ⟨b, off + i * 2 + 1, none⟩ = some (.int .i64 (aw p)) := by
  have h1 := rd_PairS.1 h
  obtain ⟨a', cap, he, hn, hc⟩ := h1.form
  have hi : i < List.length (α := tPair.D) r := (List.getElem?_eq_some_iff.1 hp).1
  obtain ⟨b, off, rfl, hcap, hcc⟩ := hc (by omega)
  simp only [Value.slice.injEq] at he
  obtain ⟨rfl, _, rfl⟩ := he
  have hh := hcc i hi
  have e : atPair r i = ⟨hm p, aw p⟩ := by unfold atPair; rw [hp]; rfl
  rw [e] at hh
  exact ⟨b, off, rfl, hcap, hh.2 0 _ rfl, hh.2 1 _ rfl⟩
theorem pairs_form {w : World} {v : Value} {r : PairL} (h : RdA tPairS w [v] r) : ∃ a c, v = .slice a r.length c ∧ r.length ≤ 9223372036854775807 := rd_row_form h
theorem round_cells {w : World} {a : Option Addr} {c : Nat} {d : List PairL} (h : RdA tPairSS w [.slice a (List.length (α := PairL) d) c] d) {i : Nat} {r : PairL} (hr : d[i]? = some r) :
    ∃ b off x k, a = some ⟨b, off, none⟩ ∧ d.length ≤ c ∧ w.cell? ⟨b, off + i, none⟩ = some (.slice x r.length k) ∧ RdA tPairS w [.slice x r.length k] r ∧ r.length ≤ 9223372036854775807 := by
  obtain ⟨b, off, cap, u, h1, h2, h3, h4⟩ := rd_cell (e := tPairS) rfl h hr
  simp only [Value.slice.injEq] at h1
  obtain ⟨rfl, _, rfl⟩ := h1
  obtain ⟨x, k, rfl, h5⟩ := rd_row_form (e := tPair) h4
  exact ⟨b, off, x, k, rfl, h2, h3.2 0 _ rfl, h4, h5⟩
def cntR (h a : Int) : PairL → Nat
  | [] => 0
  | p :: r => cntR h a r + (if hm p = h ∧ aw p = a then 1 else 0)
def cntL (h a : Int) : List PairL → Nat
  | [] => 0
  | r :: d => cntR h a r + cntL h a d
theorem cntR_le (h a : Int) : ∀ r : PairL, cntR h a r ≤ List.length (α := tPair.D) r
  | [] => Nat.le_refl _
  | p :: r => by
    have := cntR_le h a r
    show cntR h a r + (if hm p = h ∧ aw p = a then 1 else 0) ≤ List.length (α := tPair.D) (p :: r)
    rw [List.length_cons]
    split <;> omega
theorem wt_PairSS_cons (r : PairL) (d : List PairL) : tPairSS.wt (r :: d) = List.length (α := tPair.D) r + 1 + tPairSS.wt d := by
  have key : ∀ A B C D : Nat, B = D → (A + 1) + (B + C) = D + 1 + (A + C) := by omega
  exact key _ _ _ _ (wt_PairS r)
theorem cntL_le (h a : Int) : ∀ d : List PairL, cntL h a d ≤ tPairSS.wt d
  | [] => Nat.zero_le _
  | r :: d => by
    have h1 := cntL_le h a d
    have h2 := cntR_le h a r
    refine Nat.le_trans ?_ (Nat.le_of_eq (wt_PairSS_cons r d).symm)
    show cntR h a r + cntL h a d ≤ _
    omega
theorem cntR_cons (h a : Int) (p : tPair.D) (r : PairL) : cntR h a (p :: r) = cntR h a r + (if hm p = h ∧ aw p = a then 1 else 0) := rfl
theorem cntL_cons (h a : Int) (r : PairL) (d : List PairL) : cntL h a (r :: d) = cntR h a r + cntL h a d := rfl
theorem schedule_form {w : World} {v : Value} {d : List PairL} (h : RdA tPairSS w [v] d) : ∃ a c, v = .slice a (List.length (α := PairL) d) c ∧ List.length (α := PairL) d ≤ 9223372036854775807 := rd_row_form h
def ixL (h a : Int) : List PairL → Nat → Int
  | [], _ => -1
  | r :: d, k => if 0 < cntR h a r then k else ixL h a d (k + 1)
theorem ixL_cons (h a : Int) (r : PairL) (d : List PairL) (k : Nat) : ixL h a (r :: d) k = if 0 < cntR h a r then (k : Int) else ixL h a d (k + 1) := rfl
def brkN (L : List Int) : Nat → Nat
  | 0 => 0
  | k + 1 => brkN L k + (if 0 < k ∧ 0 < getI L k ∧ getI L k = getI L (k - 1) then 1 else 0)
theorem brkN_le (L : List Int) : ∀ k, brkN L k ≤ k
  | 0 => Nat.le_refl _
  | k + 1 => by have := brkN_le L k; unfold brkN; split <;> omega
def venL (d : List PairL) (tm : Int) : List Int := d.map fun r => venueL r tm
def breaksL (d : List PairL) (tm : Int) : Nat := brkN (venL d tm) (List.length (α := PairL) d)
end Go.Proofs.Ytfkfolglfmmkoaa
