/-
  Packed: TypeGame, TyGame.
-/
import Derived.Deep.RegionHeld3
import Derived.Test.YteciobkjfmddcaaDoorQ1
import Derived.Test.YteciobkjfmddcaaDoorQ2
set_option linter.unusedVariables false
namespace Go.Proofs.YteciobkjfmddcaaDoor
open Go.RowKit

structure GameD where
  home : Int
  away : Int
  hg : Int
  ag : Int
  st : Int
instance : Inhabited GameD := ⟨⟨0, 0, 0, 0, 0⟩⟩
def GameD.cells (t : GameD) : List Value := [.int .i64 t.home, .int .i64 t.away, .int .i64 t.hg, .int .i64 t.ag, .int .i64 t.st]
def GameD.val (t : GameD) : Value := .agg #[.int .i64 t.home, .int .i64 t.away, .int .i64 t.hg, .int .i64 t.ag, .int .i64 t.st]
def GameD.fit (t : GameD) : Prop := IntFit t.home ∧ IntFit t.away ∧ IntFit t.hg ∧ IntFit t.ag ∧ IntFit t.st
theorem GameD.len (t : GameD) : t.cells.length = 5 := rfl
def GameRow (w : World) (v : Value) (n : Nat) (g : Nat → GameD) : Prop := RecRow 5 w v n fun i => (g i).cells
theorem GameRow.below {w w' : World} {B : Nat} {v : Value} {n : Nat} {g : Nat → GameD} (h : GameRow w v n g) (hb : Below B w w') (hB : w.heap.size ≤ B) : GameRow w' v n g := RecRow.below h hb hB
theorem GameRow.touch {lo hi lo' hi' : Nat} {w w' : World} {v : Value} {n : Nat} {g : Nat → GameD} (h : GameRow w v n g) (t : Touch lo hi w w') (hv : 0 < n → InW lo' hi' v) (ho : hi' ≤ lo ∨ hi ≤ lo') : GameRow w' v n g := RecRow.touch h t hv ho
theorem GameRow.form {w : World} {v : Value} {n : Nat} {g : Nat → GameD} (h : GameRow w v n g) : ∃ a cap, v = .slice a n cap ∧ n ≤ 9223372036854775807 ∧ (0 < n → ∃ b off, a = some ⟨b, off, none⟩ ∧ n ≤ cap ∧ ∀ i, i < n → CellsAt w b (off + i * 5) (g i).cells) := RecRow.form h
theorem InW.gameRow {hi : Nat} {v : Value} {w : World} {n : Nat} {g : Nat → GameD} (h : GameRow w v n g) (h0 : 0 < n) (hs : w.heap.size ≤ hi) : InW 0 hi v := RecRow.inw h h0 hs
theorem GameRow.of_owns {w : World} {base : Nat} {e : TypeId} {v : Value} {n : Nat} {xs : List Value} {g : Nat → GameD} (h : w.ownsRow base e 5 v n xs) (hn : n ≤ 9223372036854775807) (hg : RecCells 5 n xs fun i => (g i).cells) : GameRow w v n g := RecRow.of_owns h hn hg fun _ _ => Nat.le_refl _
theorem Tryd.infoGame : (Tryd.prog.info? 76).map (fun i => (i.zero, i.size, i.bytes)) = some (some (.agg #[.int .i64 0, .int .i64 0, .int .i64 0, .int .i64 0, .int .i64 0]), 5, 40) := by kernel_rfl
theorem x_sz_GameS (v : Value) (n : Nat) (g : Nat → GameD) (left : Int) (w : World) (hl0 : 0 ≤ left) (hl : left ≤ 1048576) (h : GameRow w v n g) :
    Calls Tryd.prog 14 #[v, .int .i64 left] w (SzPost n left w) := by
  obtain ⟨a, cap, rfl, hn, _⟩ := h.form
  clear h
  by_cases hbig : left < n
  · have g0 : decide (left - (n : Int) < 0) = true := decide_eq_true (by omega)
    go_enter Tryd.func14, Tryd.ntmps14
    go_wp2
    go_ret
    exact ⟨⟨_, rfl, .inl (by decide)⟩, Below.refl _ _⟩
  · have g0 : decide (left - (n : Int) < 0) = false := decide_eq_false (by omega)
    go_enter Tryd.func14, Tryd.ntmps14
    go_wp2
    go_ret
    exact ⟨⟨_, rfl, .inr ⟨by omega, by omega⟩⟩, Below.refl _ _⟩
theorem x_to_Game (home : Int) (away : Int) (hg : Int) (ag : Int) (st : Int) (w : World) : Calls Tryd.prog 44 #[.agg #[.int .i64 home, .int .i64 away, .int .i64 hg, .int .i64 ag, .int .i64 st]] w fun e w' => e = .returned (.agg #[.int .i64 home, .int .i64 away, .int .i64 hg, .int .i64 ag, .int .i64 st]) ∧ Below w.heap.size w w' := by
  go_enter Tryd.func44, Tryd.ntmps44
  go_wp2
  exact bodyPost_ret (v := .agg #[.int .i64 home, .int .i64 away, .int .i64 hg, .int .i64 ag, .int .i64 st]) (by simp [results, Tryd.results44, go_sem]) rfl ⟨rfl, (((Below.refl _ _).alloc (Nat.le_refl _) _).alloc (by simp) _).alloc (by simp; omega) _⟩
theorem x_eq_Game (home : Int) (away : Int) (hg : Int) (ag : Int) (st : Int) (w : World) : Calls Tryd.prog 55 #[.agg #[.int .i64 home, .int .i64 away, .int .i64 hg, .int .i64 ag, .int .i64 st], .agg #[.int .i64 home, .int .i64 away, .int .i64 hg, .int .i64 ag, .int .i64 st]] w fun e w' => e = .returned (.bool true) ∧ Below w.heap.size w w' := by
  go_enter Tryd.func55, Tryd.ntmps55
  go_wp2
  go_ret
  exact ⟨rfl, ((Below.refl _ _).alloc (Nat.le_refl _) _).alloc (by simp) _⟩
set_option maxHeartbeats 1000000 in
theorem x_to_GameS (v : Value) (n : Nat) (g : Nat → GameD) (w : World) (h : GameRow w v n g) (hn : n ≤ 1048576) :
    Calls Tryd.prog 24 #[v] w (RecMade 5 76 w n fun i => (g i).cells) := by
  obtain ⟨i0, hi, hz0, hz1, hz2⟩ := info_parts Tryd.infoGame
  obtain ⟨a, cap, rfl, _, hv⟩ := h.form
  have HV := Lib.hid hv
  clear hv h
  go_enter Tryd.func24, Tryd.ntmps24
  go_wp2_with (at_make; refine wpList_make_full _ rfl _ _ 36 rfl w.heap.size 76 i0 (.agg #[.int .i64 0, .int .i64 0, .int .i64 0, .int .i64 0, .int .i64 0]) 5 Tryd.underlying36 hi hz0 hz1 .i64 .i64 n n n rfl rfl rfl rfl (by rw [hz2]; omega) (by unfold maxLen; omega) (Nat.le_refl _) ?_; intro w1 hown hg1)
  have hb1 : Below w.heap.size w w1 := (Below.refl _ _).grown hg1 (Nat.le_refl _) (fun k hk => by cases hk)
  clear hg1
  go_loopw [4] (fun i wr => ∃ (j : Nat) (ys : List Value), j ≤ n ∧ i = .int .i64 j ∧ wr.ownsRow w.heap.size 76 5 (.slice (some ⟨w.heap.size, 0, none⟩) n n) n ys ∧
      Hid (RecCells 5 j ys fun i => (g i).cells) ∧ Below w.heap.size w wr)
    (fun i _ => n - (RowKit.intOf i).toNat)
  case atStart => exact ⟨0, _, Nat.zero_le _, rfl, hown, RecCells.nil, hb1⟩
  case round =>
    obtain ⟨j, ys, hj, rfl, hown', hys, hb⟩ := hrel
    clear hown hb1
    by_cases hlt : j < n
    · obtain ⟨b, off, rfl, _, hc⟩ := HV.out (by omega)
      have hq := (hc j hlt).belowB hb (hc j hlt).1
      generalize hx : g j = x at *
      have c0 : wr.cell? ⟨b, off + j * 5, none⟩ = some (.int .i64 x.home) := hq.2 0 _ rfl
      have c1 : wr.cell? ⟨b, off + j * 5 + 1, none⟩ = some (.int .i64 x.away) := hq.2 1 _ rfl
      have c2 : wr.cell? ⟨b, off + j * 5 + 2, none⟩ = some (.int .i64 x.hg) := hq.2 2 _ rfl
      have c3 : wr.cell? ⟨b, off + j * 5 + 3, none⟩ = some (.int .i64 x.ag) := hq.2 3 _ rfl
      have c4 : wr.cell? ⟨b, off + j * 5 + 4, none⟩ = some (.int .i64 x.st) := hq.2 4 _ rfl
      have Hx := Lib.hid hx
      have hlen := hown'.1
      have HL := Lib.hid hlen
      have hsz := hb.size
      clear hc HV hx hlen hq
      go_wp2_with (go_at_call 44; refine (x_to_Game x.home x.away x.hg x.ag x.st _).mono ?_; rintro e w2 ⟨rfl, b2⟩; have hown2 := owns_below hown' b2 (Nat.le_refl _); obtain ⟨u0, e0⟩ := owns_cellR hown2 (j * 5) (by omega); have f0 := hown2.frozenAt (j * 5); obtain ⟨u1, e1⟩ := owns_cellR hown2 (j * 5 + 1) (by omega); have f1 := hown2.frozenAt (j * 5 + 1); obtain ⟨u2, e2⟩ := owns_cellR hown2 (j * 5 + 2) (by omega); have f2 := hown2.frozenAt (j * 5 + 2); obtain ⟨u3, e3⟩ := owns_cellR hown2 (j * 5 + 3) (by omega); have f3 := hown2.frozenAt (j * 5 + 3); obtain ⟨u4, e4⟩ := owns_cellR hown2 (j * 5 + 4) (by omega); have f4 := hown2.frozenAt (j * 5 + 4))
      go_roundw
      case rel =>
        have hb2 := (hb.trans (b2.mono hsz))
        exact ⟨j + 1, _, by omega, by go_num, (((((hown2.stored (j * 5) _).1.stored (j * 5 + 1) _).1.stored (j * 5 + 2) _).1.stored (j * 5 + 3) _).1.stored (j * 5 + 4) _).1, hys.out.sets (cs := x.cells) HL.out hlt (by show (g j).cells = _; rw [Hx.out]) rfl (fun _ _ => Nat.le_refl _), (((((hb2.setCell (Nat.le_refl _) _).setCell (Nat.le_refl _) _).setCell (Nat.le_refl _) _).setCell (Nat.le_refl _) _).setCell (Nat.le_refl _) _)⟩
      case measure => simp [RowKit.intOf]; omega
    · obtain rfl : j = n := by omega
      go_wp2
      go_ret
      exact ⟨_, rfl, RecRow.of_owns hown' (by omega) hys.out (fun _ _ => Nat.le_refl _), ⟨_, hown'⟩, hb⟩
set_option maxHeartbeats 1000000 in
theorem x_eq_GameS (v : Value) (n : Nat) (g : Nat → GameD) (v' : Value) (w : World) (h : GameRow w v n g) (h' : GameRow w v' n g) :
    Calls Tryd.prog 35 #[v, v'] w fun e w' => e = .returned (.bool true) ∧ Below w.heap.size w w' := by
  obtain ⟨a, cap, rfl, hn, hv⟩ := h.form
  obtain ⟨a', cap', rfl, _, hv'⟩ := h'.form
  have HV := Lib.hid hv
  have HV' := Lib.hid hv'
  clear hv hv' h h'
  go_enter Tryd.func35, Tryd.ntmps35
  go_wp2
  go_loopw [5] (fun i wr => ∃ j : Nat, j ≤ n ∧ i = .int .i64 j ∧ Below w.heap.size w wr) (fun i _ => n - (RowKit.intOf i).toNat)
  case atStart => exact ⟨0, Nat.zero_le _, rfl, Below.refl _ _⟩
  case round =>
    obtain ⟨j, hj, rfl, hb⟩ := hrel
    by_cases hlt : j < n
    · obtain ⟨b, off, rfl, hcap, hc⟩ := HV.out (by omega)
      obtain ⟨b', off', rfl, hcap', hc'⟩ := HV'.out (by omega)
      have qa := (hc j hlt).belowB hb (hc j hlt).1
      have qb := (hc' j hlt).belowB hb (hc' j hlt).1
      clear hc hc' HV HV'
      generalize g j = x at *
      have hj0 : (0 : Int) ≤ (j : Int) := by omega
      have hj1 : (j : Int) < (n : Int) := by omega
      go_wp2
      obtain ⟨S, HSd⟩ : ∃ S : World → Prop, S = fun w' => CellsAt w' b (off + j * 5) x.cells ∧ CellsAt w' b' (off' + j * 5) x.cells ∧ Below w.heap.size w w' := ⟨_, rfl⟩
      have KS : Hid (∀ wa wb, S wa → Below wa.heap.size wa wb → S wb) := by subst HSd; exact fun wa wb ⟨qa, qb, hb⟩ b0 => ⟨qa.below b0, qb.below b0, hb.trans (b0.mono hb.size)⟩
      have OS : Hid (∀ wa, S wa → CellsAt wa b (off + j * 5) x.cells ∧ CellsAt wa b' (off' + j * 5) x.cells ∧ Below w.heap.size w wa) := by subst HSd; exact fun wa h => h
      have KS0 : Hid (S wr.drew) := by subst HSd; exact (fun (b0 : Below wr.heap.size wr wr.drew) => ⟨qa.below b0, qb.below b0, hb.trans (b0.mono hb.size)⟩) (Below.refl _ _).drew
      clear HSd
      go_wp2_with fail
      refine wp_region_held_drew (S := S) (by kernel_rfl) ?_ (fun hHeld => ?_)
      · exact KS0.out
      clear KS0 qa qb hb
      refine wpAnyH_take (i := 0) (v := ?_) rfl (by kernel_rfl) (by kernel_rfl) (by kernel_rfl) (fun _ _ _ h => h) (Or.inl ⟨by rfl, ?_⟩) (by assumption) ?_
      rotate_left
      · (intro wa hSw; obtain ⟨qa, qb, hb⟩ := OS.out _ hSw; have c0 : wa.cell? ⟨b, off + j * 5, none⟩ = some (.int .i64 x.home) := qa.2 0 _ rfl; have c1 : wa.cell? ⟨b, off + j * 5 + 1, none⟩ = some (.int .i64 x.away) := qa.2 1 _ rfl; have c2 : wa.cell? ⟨b, off + j * 5 + 2, none⟩ = some (.int .i64 x.hg) := qa.2 2 _ rfl; have c3 : wa.cell? ⟨b, off + j * 5 + 3, none⟩ = some (.int .i64 x.ag) := qa.2 3 _ rfl; have c4 : wa.cell? ⟨b, off + j * 5 + 4, none⟩ = some (.int .i64 x.st) := qa.2 4 _ rfl; have d0 : wa.cell? ⟨b', off' + j * 5, none⟩ = some (.int .i64 x.home) := qb.2 0 _ rfl; have d1 : wa.cell? ⟨b', off' + j * 5 + 1, none⟩ = some (.int .i64 x.away) := qb.2 1 _ rfl; have d2 : wa.cell? ⟨b', off' + j * 5 + 2, none⟩ = some (.int .i64 x.hg) := qb.2 2 _ rfl; have d3 : wa.cell? ⟨b', off' + j * 5 + 3, none⟩ = some (.int .i64 x.ag) := qb.2 3 _ rfl; have d4 : wa.cell? ⟨b', off' + j * 5 + 4, none⟩ = some (.int .i64 x.st) := qb.2 4 _ rfl; go_simp; try with_reducible rfl)
      simp only [Act.put, List.getElem_toArray, List.getElem_cons_zero, List.setIfInBounds_toArray, List.set_cons_zero, List.set_cons_succ]
      refine wpAnyH_take (i := 1) (v := ?_) rfl (by kernel_rfl) (by kernel_rfl) (by kernel_rfl) (fun _ _ _ h => h) (Or.inl ⟨by rfl, ?_⟩) (by assumption) ?_
      rotate_left
      · (intro wa hSw; obtain ⟨qa, qb, hb⟩ := OS.out _ hSw; have c0 : wa.cell? ⟨b, off + j * 5, none⟩ = some (.int .i64 x.home) := qa.2 0 _ rfl; have c1 : wa.cell? ⟨b, off + j * 5 + 1, none⟩ = some (.int .i64 x.away) := qa.2 1 _ rfl; have c2 : wa.cell? ⟨b, off + j * 5 + 2, none⟩ = some (.int .i64 x.hg) := qa.2 2 _ rfl; have c3 : wa.cell? ⟨b, off + j * 5 + 3, none⟩ = some (.int .i64 x.ag) := qa.2 3 _ rfl; have c4 : wa.cell? ⟨b, off + j * 5 + 4, none⟩ = some (.int .i64 x.st) := qa.2 4 _ rfl; have d0 : wa.cell? ⟨b', off' + j * 5, none⟩ = some (.int .i64 x.home) := qb.2 0 _ rfl; have d1 : wa.cell? ⟨b', off' + j * 5 + 1, none⟩ = some (.int .i64 x.away) := qb.2 1 _ rfl; have d2 : wa.cell? ⟨b', off' + j * 5 + 2, none⟩ = some (.int .i64 x.hg) := qb.2 2 _ rfl; have d3 : wa.cell? ⟨b', off' + j * 5 + 3, none⟩ = some (.int .i64 x.ag) := qb.2 3 _ rfl; have d4 : wa.cell? ⟨b', off' + j * 5 + 4, none⟩ = some (.int .i64 x.st) := qb.2 4 _ rfl; go_simp; try with_reducible rfl)
      simp only [Act.put, List.getElem_toArray, List.getElem_cons_zero, List.getElem_cons_succ, List.setIfInBounds_toArray, List.set_cons_zero, List.set_cons_succ]
      refine wpAnyH_take (i := 2) (v := ?_) rfl (by kernel_rfl) (by kernel_rfl) (by kernel_rfl) (fun _ _ _ h => h) (Or.inl ⟨by rfl, ?_⟩) (by assumption) ?_
      rotate_left
      · (intro wa hSw; obtain ⟨qa, qb, hb⟩ := OS.out _ hSw; have c0 : wa.cell? ⟨b, off + j * 5, none⟩ = some (.int .i64 x.home) := qa.2 0 _ rfl; have c1 : wa.cell? ⟨b, off + j * 5 + 1, none⟩ = some (.int .i64 x.away) := qa.2 1 _ rfl; have c2 : wa.cell? ⟨b, off + j * 5 + 2, none⟩ = some (.int .i64 x.hg) := qa.2 2 _ rfl; have c3 : wa.cell? ⟨b, off + j * 5 + 3, none⟩ = some (.int .i64 x.ag) := qa.2 3 _ rfl; have c4 : wa.cell? ⟨b, off + j * 5 + 4, none⟩ = some (.int .i64 x.st) := qa.2 4 _ rfl; have d0 : wa.cell? ⟨b', off' + j * 5, none⟩ = some (.int .i64 x.home) := qb.2 0 _ rfl; have d1 : wa.cell? ⟨b', off' + j * 5 + 1, none⟩ = some (.int .i64 x.away) := qb.2 1 _ rfl; have d2 : wa.cell? ⟨b', off' + j * 5 + 2, none⟩ = some (.int .i64 x.hg) := qb.2 2 _ rfl; have d3 : wa.cell? ⟨b', off' + j * 5 + 3, none⟩ = some (.int .i64 x.ag) := qb.2 3 _ rfl; have d4 : wa.cell? ⟨b', off' + j * 5 + 4, none⟩ = some (.int .i64 x.st) := qb.2 4 _ rfl; go_simp; try with_reducible rfl)
      simp only [Act.put, List.getElem_toArray, List.getElem_cons_zero, List.getElem_cons_succ, List.setIfInBounds_toArray, List.set_cons_zero, List.set_cons_succ]
      refine wpAnyH_take (i := 3) (v := ?_) rfl (by kernel_rfl) (by kernel_rfl) (by kernel_rfl) (fun _ _ _ h => h) (Or.inl ⟨by rfl, ?_⟩) (by assumption) ?_
      rotate_left
      · (intro wa hSw; obtain ⟨qa, qb, hb⟩ := OS.out _ hSw; have c0 : wa.cell? ⟨b, off + j * 5, none⟩ = some (.int .i64 x.home) := qa.2 0 _ rfl; have c1 : wa.cell? ⟨b, off + j * 5 + 1, none⟩ = some (.int .i64 x.away) := qa.2 1 _ rfl; have c2 : wa.cell? ⟨b, off + j * 5 + 2, none⟩ = some (.int .i64 x.hg) := qa.2 2 _ rfl; have c3 : wa.cell? ⟨b, off + j * 5 + 3, none⟩ = some (.int .i64 x.ag) := qa.2 3 _ rfl; have c4 : wa.cell? ⟨b, off + j * 5 + 4, none⟩ = some (.int .i64 x.st) := qa.2 4 _ rfl; have d0 : wa.cell? ⟨b', off' + j * 5, none⟩ = some (.int .i64 x.home) := qb.2 0 _ rfl; have d1 : wa.cell? ⟨b', off' + j * 5 + 1, none⟩ = some (.int .i64 x.away) := qb.2 1 _ rfl; have d2 : wa.cell? ⟨b', off' + j * 5 + 2, none⟩ = some (.int .i64 x.hg) := qb.2 2 _ rfl; have d3 : wa.cell? ⟨b', off' + j * 5 + 3, none⟩ = some (.int .i64 x.ag) := qb.2 3 _ rfl; have d4 : wa.cell? ⟨b', off' + j * 5 + 4, none⟩ = some (.int .i64 x.st) := qb.2 4 _ rfl; go_simp; try with_reducible rfl)
      simp only [Act.put, List.getElem_toArray, List.getElem_cons_zero, List.getElem_cons_succ, List.setIfInBounds_toArray, List.set_cons_zero, List.set_cons_succ]
      refine wpAnyH_take (i := 4) (v := ?_) rfl (by kernel_rfl) (by kernel_rfl) (by kernel_rfl) (fun _ _ _ h => h) (Or.inl ⟨by rfl, ?_⟩) (by assumption) ?_
      rotate_left
      · (intro wa hSw; obtain ⟨qa, qb, hb⟩ := OS.out _ hSw; have c0 : wa.cell? ⟨b, off + j * 5, none⟩ = some (.int .i64 x.home) := qa.2 0 _ rfl; have c1 : wa.cell? ⟨b, off + j * 5 + 1, none⟩ = some (.int .i64 x.away) := qa.2 1 _ rfl; have c2 : wa.cell? ⟨b, off + j * 5 + 2, none⟩ = some (.int .i64 x.hg) := qa.2 2 _ rfl; have c3 : wa.cell? ⟨b, off + j * 5 + 3, none⟩ = some (.int .i64 x.ag) := qa.2 3 _ rfl; have c4 : wa.cell? ⟨b, off + j * 5 + 4, none⟩ = some (.int .i64 x.st) := qa.2 4 _ rfl; have d0 : wa.cell? ⟨b', off' + j * 5, none⟩ = some (.int .i64 x.home) := qb.2 0 _ rfl; have d1 : wa.cell? ⟨b', off' + j * 5 + 1, none⟩ = some (.int .i64 x.away) := qb.2 1 _ rfl; have d2 : wa.cell? ⟨b', off' + j * 5 + 2, none⟩ = some (.int .i64 x.hg) := qb.2 2 _ rfl; have d3 : wa.cell? ⟨b', off' + j * 5 + 3, none⟩ = some (.int .i64 x.ag) := qb.2 3 _ rfl; have d4 : wa.cell? ⟨b', off' + j * 5 + 4, none⟩ = some (.int .i64 x.st) := qb.2 4 _ rfl; go_simp; try with_reducible rfl)
      simp only [Act.put, List.getElem_toArray, List.getElem_cons_zero, List.getElem_cons_succ, List.setIfInBounds_toArray, List.set_cons_zero, List.set_cons_succ]
      refine wpAnyH_take (i := 5) (v := ?_) rfl (by kernel_rfl) (by kernel_rfl) (by kernel_rfl) (fun _ _ _ h => h) (Or.inl ⟨by rfl, ?_⟩) (by assumption) ?_
      rotate_left
      · (intro wa hSw; obtain ⟨qa, qb, hb⟩ := OS.out _ hSw; have c0 : wa.cell? ⟨b, off + j * 5, none⟩ = some (.int .i64 x.home) := qa.2 0 _ rfl; have c1 : wa.cell? ⟨b, off + j * 5 + 1, none⟩ = some (.int .i64 x.away) := qa.2 1 _ rfl; have c2 : wa.cell? ⟨b, off + j * 5 + 2, none⟩ = some (.int .i64 x.hg) := qa.2 2 _ rfl; have c3 : wa.cell? ⟨b, off + j * 5 + 3, none⟩ = some (.int .i64 x.ag) := qa.2 3 _ rfl; have c4 : wa.cell? ⟨b, off + j * 5 + 4, none⟩ = some (.int .i64 x.st) := qa.2 4 _ rfl; have d0 : wa.cell? ⟨b', off' + j * 5, none⟩ = some (.int .i64 x.home) := qb.2 0 _ rfl; have d1 : wa.cell? ⟨b', off' + j * 5 + 1, none⟩ = some (.int .i64 x.away) := qb.2 1 _ rfl; have d2 : wa.cell? ⟨b', off' + j * 5 + 2, none⟩ = some (.int .i64 x.hg) := qb.2 2 _ rfl; have d3 : wa.cell? ⟨b', off' + j * 5 + 3, none⟩ = some (.int .i64 x.ag) := qb.2 3 _ rfl; have d4 : wa.cell? ⟨b', off' + j * 5 + 4, none⟩ = some (.int .i64 x.st) := qb.2 4 _ rfl; go_simp; try with_reducible rfl)
      simp only [Act.put, List.getElem_toArray, List.getElem_cons_zero, List.getElem_cons_succ, List.setIfInBounds_toArray, List.set_cons_zero, List.set_cons_succ]
      refine wpAnyH_take (i := 6) (v := ?_) rfl (by kernel_rfl) (by kernel_rfl) (by kernel_rfl) (fun _ _ _ h => h) (Or.inl ⟨by rfl, ?_⟩) (by assumption) ?_
      rotate_left
      · (intro wa hSw; obtain ⟨qa, qb, hb⟩ := OS.out _ hSw; have c0 : wa.cell? ⟨b, off + j * 5, none⟩ = some (.int .i64 x.home) := qa.2 0 _ rfl; have c1 : wa.cell? ⟨b, off + j * 5 + 1, none⟩ = some (.int .i64 x.away) := qa.2 1 _ rfl; have c2 : wa.cell? ⟨b, off + j * 5 + 2, none⟩ = some (.int .i64 x.hg) := qa.2 2 _ rfl; have c3 : wa.cell? ⟨b, off + j * 5 + 3, none⟩ = some (.int .i64 x.ag) := qa.2 3 _ rfl; have c4 : wa.cell? ⟨b, off + j * 5 + 4, none⟩ = some (.int .i64 x.st) := qa.2 4 _ rfl; have d0 : wa.cell? ⟨b', off' + j * 5, none⟩ = some (.int .i64 x.home) := qb.2 0 _ rfl; have d1 : wa.cell? ⟨b', off' + j * 5 + 1, none⟩ = some (.int .i64 x.away) := qb.2 1 _ rfl; have d2 : wa.cell? ⟨b', off' + j * 5 + 2, none⟩ = some (.int .i64 x.hg) := qb.2 2 _ rfl; have d3 : wa.cell? ⟨b', off' + j * 5 + 3, none⟩ = some (.int .i64 x.ag) := qb.2 3 _ rfl; have d4 : wa.cell? ⟨b', off' + j * 5 + 4, none⟩ = some (.int .i64 x.st) := qb.2 4 _ rfl; go_simp; try with_reducible rfl)
      simp only [Act.put, List.getElem_toArray, List.getElem_cons_zero, List.getElem_cons_succ, List.setIfInBounds_toArray, List.set_cons_zero, List.set_cons_succ]
      refine wpAnyH_take (i := 7) (v := ?_) rfl (by kernel_rfl) (by kernel_rfl) (by kernel_rfl) (fun _ _ _ h => h) (Or.inl ⟨by rfl, ?_⟩) (by assumption) ?_
      rotate_left
      · (intro wa hSw; obtain ⟨qa, qb, hb⟩ := OS.out _ hSw; have c0 : wa.cell? ⟨b, off + j * 5, none⟩ = some (.int .i64 x.home) := qa.2 0 _ rfl; have c1 : wa.cell? ⟨b, off + j * 5 + 1, none⟩ = some (.int .i64 x.away) := qa.2 1 _ rfl; have c2 : wa.cell? ⟨b, off + j * 5 + 2, none⟩ = some (.int .i64 x.hg) := qa.2 2 _ rfl; have c3 : wa.cell? ⟨b, off + j * 5 + 3, none⟩ = some (.int .i64 x.ag) := qa.2 3 _ rfl; have c4 : wa.cell? ⟨b, off + j * 5 + 4, none⟩ = some (.int .i64 x.st) := qa.2 4 _ rfl; have d0 : wa.cell? ⟨b', off' + j * 5, none⟩ = some (.int .i64 x.home) := qb.2 0 _ rfl; have d1 : wa.cell? ⟨b', off' + j * 5 + 1, none⟩ = some (.int .i64 x.away) := qb.2 1 _ rfl; have d2 : wa.cell? ⟨b', off' + j * 5 + 2, none⟩ = some (.int .i64 x.hg) := qb.2 2 _ rfl; have d3 : wa.cell? ⟨b', off' + j * 5 + 3, none⟩ = some (.int .i64 x.ag) := qb.2 3 _ rfl; have d4 : wa.cell? ⟨b', off' + j * 5 + 4, none⟩ = some (.int .i64 x.st) := qb.2 4 _ rfl; go_simp; try with_reducible rfl)
      simp only [Act.put, List.getElem_toArray, List.getElem_cons_zero, List.getElem_cons_succ, List.setIfInBounds_toArray, List.set_cons_zero, List.set_cons_succ]
      refine wpAnyH_ready (rs := [8]) (by kernel_rfl) (by simp) ?_
      refine AllReadyH.cons (o := _) rfl (fun K hK => ?_) AllReadyH.nil
      go_simp
      obtain ⟨qa, qb, hb⟩ := OS.out _ hHeld
      refine (x_eq_Game x.home x.away x.hg x.ag x.st _).mono ?_
      rintro e w101 ⟨rfl, b101⟩
      clear qa qb hb
      (try go_wp2_with fail)
      refine hK.out _ _ ?_ (fun hHeld101 => ?_)
      · exact KS.out _ _ hHeld b101
      clear hK K
      refine wpAnyH_take (i := 9) (v := ?_) rfl (by kernel_rfl) (by kernel_rfl) (by kernel_rfl) (fun _ _ _ h => h) (Or.inl ⟨by rfl, ?_⟩) (by assumption) ?_
      rotate_left
      · (intro wa hSw; obtain ⟨qa, qb, hb⟩ := OS.out _ hSw; have c0 : wa.cell? ⟨b, off + j * 5, none⟩ = some (.int .i64 x.home) := qa.2 0 _ rfl; have c1 : wa.cell? ⟨b, off + j * 5 + 1, none⟩ = some (.int .i64 x.away) := qa.2 1 _ rfl; have c2 : wa.cell? ⟨b, off + j * 5 + 2, none⟩ = some (.int .i64 x.hg) := qa.2 2 _ rfl; have c3 : wa.cell? ⟨b, off + j * 5 + 3, none⟩ = some (.int .i64 x.ag) := qa.2 3 _ rfl; have c4 : wa.cell? ⟨b, off + j * 5 + 4, none⟩ = some (.int .i64 x.st) := qa.2 4 _ rfl; have d0 : wa.cell? ⟨b', off' + j * 5, none⟩ = some (.int .i64 x.home) := qb.2 0 _ rfl; have d1 : wa.cell? ⟨b', off' + j * 5 + 1, none⟩ = some (.int .i64 x.away) := qb.2 1 _ rfl; have d2 : wa.cell? ⟨b', off' + j * 5 + 2, none⟩ = some (.int .i64 x.hg) := qb.2 2 _ rfl; have d3 : wa.cell? ⟨b', off' + j * 5 + 3, none⟩ = some (.int .i64 x.ag) := qb.2 3 _ rfl; have d4 : wa.cell? ⟨b', off' + j * 5 + 4, none⟩ = some (.int .i64 x.st) := qb.2 4 _ rfl; go_simp; try with_reducible rfl)
      simp only [Act.put, List.getElem_toArray, List.getElem_cons_zero, List.getElem_cons_succ, List.setIfInBounds_toArray, List.set_cons_zero, List.set_cons_succ]
      refine wpAnyH_done (by kernel_rfl) ?_ _
      obtain ⟨qa, qb, hb⟩ := OS.out _ hHeld101
      clear KS OS hHeld hHeld101
      go_wp2
      go_roundw
      case rel => exact ⟨j + 1, by omega, by go_num, hb⟩
      case measure => simp [RowKit.intOf]; omega
    · go_wp2
      go_ret
      exact ⟨rfl, hb⟩
def gameMk (k : Int) (i : Nat) : GameD := ⟨k + 5 * (i : Int), k + 5 * (i : Int) + 1, k + 5 * (i : Int) + 1 + 1, k + 5 * (i : Int) + 1 + 1 + 1, k + 5 * (i : Int) + 1 + 1 + 1 + 1⟩
theorem tgrownGame {a b c : World} {row : Option Nat} (h : a.grownBy b row) (k : b.grownBy c row) : a.grownBy c row :=
  ⟨k.os.trans h.os, k.tape.trans h.tape, k.output.trans h.output, Nat.le_trans h.size k.size, fun i hi hne => (k.block i (Nat.lt_of_lt_of_le hi h.size) hne).trans (h.block i hi hne)⟩
section
open Go.ChangeShapes Go.WideShapes
variable {H : Type} {enc : TypeId × Value → H} {P : Program} {w : World} {base : Nat} {spare : Nat → Bool} {held : Bool}
theorem open_games {t e : TypeId} {f0 f1 f2 f3 f4 : Field} {v : Value} (ht : P.underlying t = some (.slice e)) (he : P.underlying e = some (.struct #[f0, f1, f2, f3, f4]))
    (ce : P.cellsOf e = 5) (o0 : f0.offset = 0) (c0 : P.cellsOf f0.type = 1) (u0 : P.underlying f0.type = some (.int .i64)) (o1 : f1.offset = 1) (c1 : P.cellsOf f1.type = 1) (u1 : P.underlying f1.type = some (.int .i64)) (o2 : f2.offset = 2) (c2 : P.cellsOf f2.type = 1) (u2 : P.underlying f2.type = some (.int .i64)) (o3 : f3.offset = 3) (c3 : P.cellsOf f3.type = 1) (u3 : P.underlying f3.type = some (.int .i64)) (o4 : f4.offset = 4) (c4 : P.cellsOf f4.type = 1) (u4 : P.underlying f4.type = some (.int .i64))
    (h : ∃ (fuel : Nat) (x : DataW H × List MemPlace), DataW.trod enc P w base spare held fuel t [v] = some x) : ∃ (n : Nat) (g : Nat → GameD), GameRow w v n g ∧ (∀ i, (g i).fit) ∧ n ≤ 9223372036854775807 := by
  obtain ⟨fuel, x, h⟩ := h
  have hz : (default : GameD).fit := by simp [GameD.fit, IntFit, default]
  rcases Go.Deep.open_slice ht h with ⟨h0, _⟩ | ⟨a, len, cap, m, q, D, Pl, h0, hb, hl, hm, hmm, rfl, hx⟩
  · simp only [List.cons.injEq, and_true] at h0
    subst h0
    exact ⟨0, fun _ => default, .inl ⟨_, _, rfl, rfl⟩, fun _ => hz, by omega⟩
  simp only [List.cons.injEq, and_true] at h0
  subst h0
  have hlm : len ≤ m := by rw [hmm]; split <;> omega
  have each : ∀ i, i < len → ∃ q : GameD, (∀ j u, q.cells[j]? = some u → w.cell? ((a.add (i * 5)).add j) = some u) ∧ q.fit := by
    intro i hi
    obtain ⟨cs', h1, h2⟩ := hx i (by omega)
    rw [ce] at h1
    obtain ⟨_, hlen, hcell⟩ := World.cells?_some h1
    obtain ⟨xs, kk, hk, hxy, _, hxl, hf⟩ := DataW.trod_struct he h2
    match xs, hxl, cs', hlen with
    | [y0, y1, y2, y3, y4], _, [v0, v1, v2, v3, v4], _ =>
      have g0 := hf 0 f0 rfl
      simp [o0, c0] at g0
      obtain ⟨z0, e0, _, k0⟩ := DataW.trod_int u0 g0
      simp only [List.cons.injEq, and_true] at e0
      subst e0
      have g1 := hf 1 f1 rfl
      simp [o1, c1] at g1
      obtain ⟨z1, e1, _, k1⟩ := DataW.trod_int u1 g1
      simp only [List.cons.injEq, and_true] at e1
      subst e1
      have g2 := hf 2 f2 rfl
      simp [o2, c2] at g2
      obtain ⟨z2, e2, _, k2⟩ := DataW.trod_int u2 g2
      simp only [List.cons.injEq, and_true] at e2
      subst e2
      have g3 := hf 3 f3 rfl
      simp [o3, c3] at g3
      obtain ⟨z3, e3, _, k3⟩ := DataW.trod_int u3 g3
      simp only [List.cons.injEq, and_true] at e3
      subst e3
      have g4 := hf 4 f4 rfl
      simp [o4, c4] at g4
      obtain ⟨z4, e4, _, k4⟩ := DataW.trod_int u4 g4
      simp only [List.cons.injEq, and_true] at e4
      subst e4
      refine ⟨⟨z0, z1, z2, z3, z4⟩, fun j u hu => ?_, ⟨intFit_of k0, intFit_of k1, intFit_of k2, intFit_of k3, intFit_of k4⟩⟩
      have hj : j < 5 := (List.getElem?_eq_some_iff.1 hu).1
      rw [hcell j hj]
      exact hu
  obtain ⟨g, hg⟩ := Go.Deep.choose_lt each
  have hfit : ∀ i, (if i < len then g i else default : GameD).fit := fun i => by
    by_cases hi : i < len
    · simpa [hi] using (hg i hi).2
    · simpa [hi] using hz
  unfold maxLen at hm
  refine ⟨len, fun i => if i < len then g i else default, ?_, hfit, by omega⟩
  by_cases h0 : len = 0
  · subst h0; exact .inl ⟨_, _, rfl, rfl⟩
  · have hc0 := (hg 0 (by omega)).1 0 _ rfl
    obtain ⟨b, off, spot⟩ := a
    have hspot : spot = none := by simpa [Addr.add] using World.cell?_spot hc0
    subst hspot
    have hadd : ∀ j, (⟨b, off, none⟩ : Addr).add j = ⟨b, off + j, none⟩ := fun j => by unfold Addr.add; split <;> simp_all
    have hadd2 : ∀ o j, (⟨b, o, none⟩ : Addr).add j = ⟨b, o + j, none⟩ := fun o j => by unfold Addr.add; split <;> simp_all
    simp only [hadd, hadd2] at hc0
    refine .inr ⟨b, off, cap, rfl, by omega, by omega, fun i hi => ⟨World.block_lt_of_cell? w _ hc0, fun j u hu => ?_⟩, hl⟩
    have := (hg i hi).1
    simp only [hadd, hadd2] at this
    simp only [hi, if_true] at hu
    exact this j u hu
end
section
open Go.ChangeShapes Go.WideShapes
variable {H : Type} {enc : TypeId × Value → H} {P : Program} {w : World} {base : Nat} {spare : Nat → Bool} {held : Bool}
theorem open_game {r : Reach} {b0 : Nat} {e : TypeId} {f0 f1 f2 f3 f4 : Field} {v : Value} {d : DataW H} {pl : List MemPlace} (he : P.underlying e = some (.struct #[f0, f1, f2, f3, f4]))
    (ce : P.cellsOf e = 5) (o0 : f0.offset = 0) (c0 : P.cellsOf f0.type = 1) (u0 : P.underlying f0.type = some (.int .i64)) (o1 : f1.offset = 1) (c1 : P.cellsOf f1.type = 1) (u1 : P.underlying f1.type = some (.int .i64)) (o2 : f2.offset = 2) (c2 : P.cellsOf f2.type = 1) (u2 : P.underlying f2.type = some (.int .i64)) (o3 : f3.offset = 3) (c3 : P.cellsOf f3.type = 1) (u3 : P.underlying f3.type = some (.int .i64)) (o4 : f4.offset = 4) (c4 : P.cellsOf f4.type = 1) (u4 : P.underlying f4.type = some (.int .i64))
    (hv : Value.okWide P w r b0 e v) (h : DataW.Trod enc P w base spare held e v d pl) : ∃ q : GameD, v = q.val ∧ q.fit := by
  obtain ⟨cs, rfl, hsz⟩ := okWide_struct he hv
  obtain ⟨l⟩ := cs
  obtain ⟨fuel, h⟩ := h
  obtain ⟨xs, kk, hk, hxy, _, hxl, hf⟩ := DataW.trod_struct he h
  match xs, hxl, l, hsz.trans ce with
  | [y0, y1, y2, y3, y4], _, [v0, v1, v2, v3, v4], _ =>
      have g0 := hf 0 f0 rfl
      simp [Value.cells, o0, c0] at g0
      obtain ⟨z0, e0, _, k0⟩ := DataW.trod_int u0 g0
      simp only [List.cons.injEq, and_true] at e0
      subst e0
      have g1 := hf 1 f1 rfl
      simp [Value.cells, o1, c1] at g1
      obtain ⟨z1, e1, _, k1⟩ := DataW.trod_int u1 g1
      simp only [List.cons.injEq, and_true] at e1
      subst e1
      have g2 := hf 2 f2 rfl
      simp [Value.cells, o2, c2] at g2
      obtain ⟨z2, e2, _, k2⟩ := DataW.trod_int u2 g2
      simp only [List.cons.injEq, and_true] at e2
      subst e2
      have g3 := hf 3 f3 rfl
      simp [Value.cells, o3, c3] at g3
      obtain ⟨z3, e3, _, k3⟩ := DataW.trod_int u3 g3
      simp only [List.cons.injEq, and_true] at e3
      subst e3
      have g4 := hf 4 f4 rfl
      simp [Value.cells, o4, c4] at g4
      obtain ⟨z4, e4, _, k4⟩ := DataW.trod_int u4 g4
      simp only [List.cons.injEq, and_true] at e4
      subst e4
      exact ⟨⟨z0, z1, z2, z3, z4⟩, rfl, ⟨intFit_of k0, intFit_of k1, intFit_of k2, intFit_of k3, intFit_of k4⟩⟩
end
end Go.Proofs.YteciobkjfmddcaaDoor
set_option linter.unusedVariables false
namespace Go.Proofs.YteciobkjfmddcaaDoor
open Go.RowKit

def tGame : Ty := tTwo tInt (tTwo tInt (tTwo tInt (tTwo tInt tInt)))
def tGameS : Ty := tSl 76 tGame
theorem opens_Game : Opens Tryd.prog 78 tGame := opens_struct Tryd.underlying78 (by kernel_rfl) ⟨rfl, _, _, rfl, (opens_int Tryd.underlying3 (by kernel_rfl)), ⟨rfl, _, _, rfl, (opens_int Tryd.underlying3 (by kernel_rfl)), ⟨rfl, _, _, rfl, (opens_int Tryd.underlying3 (by kernel_rfl)), ⟨rfl, _, _, rfl, (opens_int Tryd.underlying3 (by kernel_rfl)), ⟨rfl, (opens_int Tryd.underlying3 (by kernel_rfl))⟩⟩⟩⟩⟩
theorem opens_GameS : Opens Tryd.prog 26 tGameS := opens_sl Tryd.underlying26 (by kernel_rfl) opens_Game
def ofGame (x : tGame.D) : GameD := ⟨x.1, x.2.1, x.2.2.1, x.2.2.2.1, x.2.2.2.2⟩
def atGame (d : List tGame.D) (i : Nat) : GameD := ((d[i]?).map ofGame).getD default
theorem flat_Game : FlatT tGame fun x => (ofGame x).cells := (flat_two flat_int (flat_two flat_int (flat_two flat_int (flat_two flat_int flat_int))))
theorem cells_Game {d : List tGame.D} {i : Nat} (hi : i < d.length) : cellsAt (fun x => (ofGame x).cells) d i = (atGame d i).cells := by
  refine (cellsAt_lt (List.getElem?_eq_getElem hi)).trans ?_
  unfold atGame; rw [List.getElem?_eq_getElem hi]; rfl
theorem rd_GameS {w : World} {v : Value} {d : List tGame.D} : RdA tGameS w [v] d ↔ GameRow w v d.length (atGame d) := by
  have e := fun i (hi : i < d.length) => cells_Game hi
  exact flat_Game.rdA.trans ⟨fun h => RecRow.congr h e, fun h => RecRow.congr h fun i hi => (e i hi).symm⟩
theorem rdN_GameS {w : World} {lo hi : Nat} {v : Value} {d : List tGame.D} (h : GameRow w v d.length (atGame d)) (hi2 : InW lo hi v) : RdN tGameS w lo hi [v] d :=
  flat_Game.reads (flat_Game.row (rd_GameS.2 h)) fun _ q hq => hi2 q hq
theorem wt_GameS (d : List tGame.D) : tGameS.wt d = d.length := by
  show d.length + (d.map tGame.wt).sum = d.length
  have := sum_zero (f := tGame.wt) (fun _ => rfl) d
  omega
theorem mks_GameS (d : List tGame.D) : tGameS.mks d = 5 * d.length := sum_const (f := tGame.mks) (fun _ => rfl) d
theorem mkl_GameS (d : List tGame.D) (k : Int) : List.length (α := tGame.D) (tGameS.mkd k d) = d.length := mkList_len _ _ _ _
theorem mk_GameS (d : List tGame.D) (k : Int) (i : Nat) (hi : i < d.length) : atGame (tGameS.mkd k d) i = gameMk k i := by
  have h := mkList_get (mks := tGame.mks) (mkd := tGame.mkd) (m := 5) (fun _ => rfl) d k i
  have h2 : (mkList tGame.mks tGame.mkd k d)[i]? = some (tGame.mkd (k + ((5 : Nat) : Int) * i) d[i]) := by
    rw [h, List.getElem?_eq_getElem hi]; rfl
  unfold atGame
  refine (congrArg (fun o => (Option.map ofGame o).getD default) h2).trans ?_
  rfl
theorem own_GameS {w : World} {lo hi : Nat} {v : Value} {d : List tGame.D} {xs : List Value} (h : w.ownsRow lo 76 5 v d.length xs) (hr : GameRow w v d.length (atGame d)) (h1 : ∀ q, v.ownBlock = some q → q < hi) (hh : hi ≤ w.heap.size) : OwN tGameS w lo hi [v] d :=
  flat_Game.made h (rd_GameS.2 hr) h1 hh
theorem y_sz_GameS (v : Value) (d : List tGame.D) (left : Int) (w : World) (hl0 : 0 ≤ left) (hl : left ≤ 1048576) (h : RdA tGameS w [v] d) : Calls Tryd.prog 14 #[v, .int .i64 left] w (SzT tGameS d left w) :=
  (x_sz_GameS v d.length (atGame d) left w hl0 hl (rd_GameS.1 h)).mono fun e w' ⟨⟨r, he, hr⟩, hb⟩ => ⟨⟨r, he, by rw [wt_GameS]; exact hr⟩, hb⟩
theorem y_to_GameS (v : Value) (d : List tGame.D) (w : World) (h : RdA tGameS w [v] d) (hw : tGameS.wt d ≤ 1048576) : Calls Tryd.prog 24 #[v] w (MadeT tGameS d w) :=
  (x_to_GameS v d.length (atGame d) w (rd_GameS.1 h) (by rw [wt_GameS] at hw; exact hw)).mono fun e w' ⟨v', he, hr, ⟨xs, ho⟩, hb⟩ => ⟨v', he, flat_Game.made ho (rd_GameS.2 hr) (fun q hq => (ho.lt q hq).2) (Nat.le_refl _), hb⟩
theorem y_eq_GameS (v v' : Value) (d : List tGame.D) (w : World) (h : RdA tGameS w [v] d) (h' : RdA tGameS w [v'] d) : Calls Tryd.prog 35 #[v, v'] w fun e w' => e = .returned (.bool true) ∧ Below w.heap.size w w' :=
  x_eq_GameS v d.length (atGame d) v' w (rd_GameS.1 h) (rd_GameS.1 h')
end Go.Proofs.YteciobkjfmddcaaDoor
