/-
  Packed: TypeGame, First, Games, Games2, Season, Tables, BoxF, Tables2.
-/
import Derived.Deep.RegionHeld3
import Derived.Test.YteciobkjfmddcaaGreatQ1
import Derived.Test.YteciobkjfmddcaaGreatQ2
set_option linter.unusedVariables false
namespace Go.Proofs.YteciobkjfmddcaaGreat
open Go.RowKit

structure GameD where
  home : Int
  away : Int
  hg : Int
  ag : Int
  st : Int
instance : Inhabited GameD := ⟨⟨0, 0, 0, 0, 0⟩⟩
def GameD.cells (t : GameD) : List Value := [.int .i64 t.home, .int .i64 t.away, .int .i64 t.hg, .int .i64 t.ag, .int .i64 t.st]
def GameD.val (t : GameD) : Value := .agg #[.int .i64 t.home, .int .i64 t.away, .int .i64 t.hg, .int .i64 t.ag, .int .i64 t.st]
def GameD.fit (t : GameD) : Prop := IntFit t.home ∧ IntFit t.away ∧ IntFit t.hg ∧ IntFit t.ag ∧ IntFit t.st
theorem GameD.len (t : GameD) : t.cells.length = 5 := rfl
def GameRow (w : World) (v : Value) (n : Nat) (g : Nat → GameD) : Prop := RecRow 5 w v n fun i => (g i).cells
theorem GameRow.below {w w' : World} {B : Nat} {v : Value} {n : Nat} {g : Nat → GameD} (h : GameRow w v n g) (hb : Below B w w') (hB : w.heap.size ≤ B) : GameRow w' v n g := RecRow.below h hb hB
theorem GameRow.touch {lo hi lo' hi' : Nat} {w w' : World} {v : Value} {n : Nat} {g : Nat → GameD} (h : GameRow w v n g) (t : Touch lo hi w w') (hv : 0 < n → InW lo' hi' v) (ho : hi' ≤ lo ∨ hi ≤ lo') : GameRow w' v n g := RecRow.touch h t hv ho
theorem GameRow.form {w : World} {v : Value} {n : Nat} {g : Nat → GameD} (h : GameRow w v n g) : ∃ a cap, v = .slice a n cap ∧ n ≤ 9223372036854775807 ∧ (0 < n → ∃ b off, a = some ⟨b, off, none⟩ ∧ n ≤ cap ∧ ∀ i, i < n → CellsAt w b (off + i * 5) (g i).cells) := RecRow.form h
theorem InW.gameRow {hi : Nat} {v : Value} {w : World} {n : Nat} {g : Nat → GameD} (h : GameRow w v n g) (h0 : 0 < n) (hs : w.heap.size ≤ hi) : InW 0 hi v := RecRow.inw h h0 hs
theorem GameRow.of_owns {w : World} {base : Nat} {e : TypeId} {v : Value} {n : Nat} {xs : List Value} {g : Nat → GameD} (h : w.ownsRow base e 5 v n xs) (hn : n ≤ 9223372036854775807) (hg : RecCells 5 n xs fun i => (g i).cells) : GameRow w v n g := RecRow.of_owns h hn hg fun _ _ => Nat.le_refl _
theorem Tryz.infoGame : (Tryz.prog.info? 127).map (fun i => (i.zero, i.size, i.bytes)) = some (some (.agg #[.int .i64 0, .int .i64 0, .int .i64 0, .int .i64 0, .int .i64 0]), 5, 40) := by kernel_rfl
theorem x_sz_GameS (v : Value) (n : Nat) (g : Nat → GameD) (left : Int) (w : World) (hl0 : 0 ≤ left) (hl : left ≤ 1048576) (h : GameRow w v n g) :
    Calls Tryz.prog 42 #[v, .int .i64 left] w (SzPost n left w) := by
  obtain ⟨a, cap, rfl, hn, _⟩ := h.form
  clear h
  by_cases hbig : left < n
  · have g0 : decide (left - (n : Int) < 0) = true := decide_eq_true (by omega)
    go_enter Tryz.func42, Tryz.ntmps42
    go_wp2
    go_ret
    exact ⟨⟨_, rfl, .inl (by decide)⟩, Below.refl _ _⟩
  · have g0 : decide (left - (n : Int) < 0) = false := decide_eq_false (by omega)
    go_enter Tryz.func42, Tryz.ntmps42
    go_wp2
    go_ret
    exact ⟨⟨_, rfl, .inr ⟨by omega, by omega⟩⟩, Below.refl _ _⟩
theorem x_to_Game (home : Int) (away : Int) (hg : Int) (ag : Int) (st : Int) (w : World) : Calls Tryz.prog 96 #[.agg #[.int .i64 home, .int .i64 away, .int .i64 hg, .int .i64 ag, .int .i64 st]] w fun e w' => e = .returned (.agg #[.int .i64 home, .int .i64 away, .int .i64 hg, .int .i64 ag, .int .i64 st]) ∧ Below w.heap.size w w' := by
  go_enter Tryz.func96, Tryz.ntmps96
  go_wp2
  exact bodyPost_ret (v := .agg #[.int .i64 home, .int .i64 away, .int .i64 hg, .int .i64 ag, .int .i64 st]) (by simp [results, Tryz.results96, go_sem]) rfl ⟨rfl, (((Below.refl _ _).alloc (Nat.le_refl _) _).alloc (by simp) _).alloc (by simp; omega) _⟩
theorem x_eq_Game (home : Int) (away : Int) (hg : Int) (ag : Int) (st : Int) (w : World) : Calls Tryz.prog 99 #[.agg #[.int .i64 home, .int .i64 away, .int .i64 hg, .int .i64 ag, .int .i64 st], .agg #[.int .i64 home, .int .i64 away, .int .i64 hg, .int .i64 ag, .int .i64 st]] w fun e w' => e = .returned (.bool true) ∧ Below w.heap.size w w' := by
  go_enter Tryz.func99, Tryz.ntmps99
  go_wp2
  go_ret
  exact ⟨rfl, ((Below.refl _ _).alloc (Nat.le_refl _) _).alloc (by simp) _⟩
set_option maxHeartbeats 1000000 in
theorem x_to_GameS (v : Value) (n : Nat) (g : Nat → GameD) (w : World) (h : GameRow w v n g) (hn : n ≤ 1048576) :
    Calls Tryz.prog 50 #[v] w (RecMade 5 127 w n fun i => (g i).cells) := by
  obtain ⟨i0, hi, hz0, hz1, hz2⟩ := info_parts Tryz.infoGame
  obtain ⟨a, cap, rfl, _, hv⟩ := h.form
  have HV := Lib.hid hv
  clear hv h
  go_enter Tryz.func50, Tryz.ntmps50
  go_wp2_with (at_make; refine wpList_make_full _ rfl _ _ 27 rfl w.heap.size 127 i0 (.agg #[.int .i64 0, .int .i64 0, .int .i64 0, .int .i64 0, .int .i64 0]) 5 Tryz.underlying27 hi hz0 hz1 .i64 .i64 n n n rfl rfl rfl rfl (by rw [hz2]; omega) (by unfold maxLen; omega) (Nat.le_refl _) ?_; intro w1 hown hg1)
  have hb1 : Below w.heap.size w w1 := (Below.refl _ _).grown hg1 (Nat.le_refl _) (fun k hk => by cases hk)
  clear hg1
  go_loopw [4] (fun i wr => ∃ (j : Nat) (ys : List Value), j ≤ n ∧ i = .int .i64 j ∧ wr.ownsRow w.heap.size 127 5 (.slice (some ⟨w.heap.size, 0, none⟩) n n) n ys ∧
      Hid (RecCells 5 j ys fun i => (g i).cells) ∧ Below w.heap.size w wr)
    (fun i _ => n - (RowKit.intOf i).toNat)
  case atStart => exact ⟨0, _, Nat.zero_le _, rfl, hown, RecCells.nil, hb1⟩
  case round =>
    obtain ⟨j, ys, hj, rfl, hown', hys, hb⟩ := hrel
    clear hown hb1
    by_cases hlt : j < n
    · obtain ⟨b, off, rfl, _, hc⟩ := HV.out (by omega)
      have hq := (hc j hlt).belowB hb (hc j hlt).1
      generalize hx : g j = x at *
      have c0 : wr.cell? ⟨b, off + j * 5, none⟩ = some (.int .i64 x.home) := hq.2 0 _ rfl
      have c1 : wr.cell? ⟨b, off + j * 5 + 1, none⟩ = some (.int .i64 x.away) := hq.2 1 _ rfl
      have c2 : wr.cell? ⟨b, off + j * 5 + 2, none⟩ = some (.int .i64 x.hg) := hq.2 2 _ rfl
      have c3 : wr.cell? ⟨b, off + j * 5 + 3, none⟩ = some (.int .i64 x.ag) := hq.2 3 _ rfl
      have c4 : wr.cell? ⟨b, off + j * 5 + 4, none⟩ = some (.int .i64 x.st) := hq.2 4 _ rfl
      have Hx := Lib.hid hx
      have hlen := hown'.1
      have HL := Lib.hid hlen
      have hsz := hb.size
      clear hc HV hx hlen hq
      go_wp2_with (go_at_call 96; refine (x_to_Game x.home x.away x.hg x.ag x.st _).mono ?_; rintro e w2 ⟨rfl, b2⟩; have hown2 := owns_below hown' b2 (Nat.le_refl _); obtain ⟨u0, e0⟩ := owns_cellR hown2 (j * 5) (by omega); have f0 := hown2.frozenAt (j * 5); obtain ⟨u1, e1⟩ := owns_cellR hown2 (j * 5 + 1) (by omega); have f1 := hown2.frozenAt (j * 5 + 1); obtain ⟨u2, e2⟩ := owns_cellR hown2 (j * 5 + 2) (by omega); have f2 := hown2.frozenAt (j * 5 + 2); obtain ⟨u3, e3⟩ := owns_cellR hown2 (j * 5 + 3) (by omega); have f3 := hown2.frozenAt (j * 5 + 3); obtain ⟨u4, e4⟩ := owns_cellR hown2 (j * 5 + 4) (by omega); have f4 := hown2.frozenAt (j * 5 + 4))
      go_roundw
      case rel =>
        have hb2 := (hb.trans (b2.mono hsz))
        exact ⟨j + 1, _, by omega, by go_num, (((((hown2.stored (j * 5) _).1.stored (j * 5 + 1) _).1.stored (j * 5 + 2) _).1.stored (j * 5 + 3) _).1.stored (j * 5 + 4) _).1, hys.out.sets (cs := x.cells) HL.out hlt (by show (g j).cells = _; rw [Hx.out]) rfl (fun _ _ => Nat.le_refl _), (((((hb2.setCell (Nat.le_refl _) _).setCell (Nat.le_refl _) _).setCell (Nat.le_refl _) _).setCell (Nat.le_refl _) _).setCell (Nat.le_refl _) _)⟩
      case measure => simp [RowKit.intOf]; omega
    · obtain rfl : j = n := by omega
      go_wp2
      go_ret
      exact ⟨_, rfl, RecRow.of_owns hown' (by omega) hys.out (fun _ _ => Nat.le_refl _), ⟨_, hown'⟩, hb⟩
set_option maxHeartbeats 1000000 in
theorem x_eq_GameS (v : Value) (n : Nat) (g : Nat → GameD) (v' : Value) (w : World) (h : GameRow w v n g) (h' : GameRow w v' n g) :
    Calls Tryz.prog 55 #[v, v'] w fun e w' => e = .returned (.bool true) ∧ Below w.heap.size w w' := by
  obtain ⟨a, cap, rfl, hn, hv⟩ := h.form
  obtain ⟨a', cap', rfl, _, hv'⟩ := h'.form
  have HV := Lib.hid hv
  have HV' := Lib.hid hv'
  clear hv hv' h h'
  go_enter Tryz.func55, Tryz.ntmps55
  go_wp2
  go_loopw [5] (fun i wr => ∃ j : Nat, j ≤ n ∧ i = .int .i64 j ∧ Below w.heap.size w wr) (fun i _ => n - (RowKit.intOf i).toNat)
  case atStart => exact ⟨0, Nat.zero_le _, rfl, Below.refl _ _⟩
  case round =>
    obtain ⟨j, hj, rfl, hb⟩ := hrel
    by_cases hlt : j < n
    · obtain ⟨b, off, rfl, hcap, hc⟩ := HV.out (by omega)
      obtain ⟨b', off', rfl, hcap', hc'⟩ := HV'.out (by omega)
      have qa := (hc j hlt).belowB hb (hc j hlt).1
      have qb := (hc' j hlt).belowB hb (hc' j hlt).1
      clear hc hc' HV HV'
      generalize g j = x at *
      have hj0 : (0 : Int) ≤ (j : Int) := by omega
      have hj1 : (j : Int) < (n : Int) := by omega
      go_wp2
      obtain ⟨S, HSd⟩ : ∃ S : World → Prop, S = fun w' => CellsAt w' b (off + j * 5) x.cells ∧ CellsAt w' b' (off' + j * 5) x.cells ∧ Below w.heap.size w w' := ⟨_, rfl⟩
      have KS : Hid (∀ wa wb, S wa → Below wa.heap.size wa wb → S wb) := by subst HSd; exact fun wa wb ⟨qa, qb, hb⟩ b0 => ⟨qa.below b0, qb.below b0, hb.trans (b0.mono hb.size)⟩
      have OS : Hid (∀ wa, S wa → CellsAt wa b (off + j * 5) x.cells ∧ CellsAt wa b' (off' + j * 5) x.cells ∧ Below w.heap.size w wa) := by subst HSd; exact fun wa h => h
      have KS0 : Hid (S wr.drew) := by subst HSd; exact (fun (b0 : Below wr.heap.size wr wr.drew) => ⟨qa.below b0, qb.below b0, hb.trans (b0.mono hb.size)⟩) (Below.refl _ _).drew
      clear HSd
      go_wp2_with fail
      refine wp_region_held_drew (S := S) (by kernel_rfl) ?_ (fun hHeld => ?_)
      · exact KS0.out
      clear KS0 qa qb hb
      refine wpAnyH_take (i := 0) (v := ?_) rfl (by kernel_rfl) (by kernel_rfl) (by kernel_rfl) (fun _ _ _ h => h) (Or.inl ⟨by rfl, ?_⟩) (by assumption) ?_
      rotate_left
      · (intro wa hSw; obtain ⟨qa, qb, hb⟩ := OS.out _ hSw; have c0 : wa.cell? ⟨b, off + j * 5, none⟩ = some (.int .i64 x.home) := qa.2 0 _ rfl; have c1 : wa.cell? ⟨b, off + j * 5 + 1, none⟩ = some (.int .i64 x.away) := qa.2 1 _ rfl; have c2 : wa.cell? ⟨b, off + j * 5 + 2, none⟩ = some (.int .i64 x.hg) := qa.2 2 _ rfl; have c3 : wa.cell? ⟨b, off + j * 5 + 3, none⟩ = some (.int .i64 x.ag) := qa.2 3 _ rfl; have c4 : wa.cell? ⟨b, off + j * 5 + 4, none⟩ = some (.int .i64 x.st) := qa.2 4 _ rfl; have d0 : wa.cell? ⟨b', off' + j * 5, none⟩ = some (.int .i64 x.home) := qb.2 0 _ rfl; have d1 : wa.cell? ⟨b', off' + j * 5 + 1, none⟩ = some (.int .i64 x.away) := qb.2 1 _ rfl; have d2 : wa.cell? ⟨b', off' + j * 5 + 2, none⟩ = some (.int .i64 x.hg) := qb.2 2 _ rfl; have d3 : wa.cell? ⟨b', off' + j * 5 + 3, none⟩ = some (.int .i64 x.ag) := qb.2 3 _ rfl; have d4 : wa.cell? ⟨b', off' + j * 5 + 4, none⟩ = some (.int .i64 x.st) := qb.2 4 _ rfl; go_simp; try with_reducible rfl)
      simp only [Act.put, List.getElem_toArray, List.getElem_cons_zero, List.setIfInBounds_toArray, List.set_cons_zero, List.set_cons_succ]
      refine wpAnyH_take (i := 1) (v := ?_) rfl (by kernel_rfl) (by kernel_rfl) (by kernel_rfl) (fun _ _ _ h => h) (Or.inl ⟨by rfl, ?_⟩) (by assumption) ?_
      rotate_left
      · (intro wa hSw; obtain ⟨qa, qb, hb⟩ := OS.out _ hSw; have c0 : wa.cell? ⟨b, off + j * 5, none⟩ = some (.int .i64 x.home) := qa.2 0 _ rfl; have c1 : wa.cell? ⟨b, off + j * 5 + 1, none⟩ = some (.int .i64 x.away) := qa.2 1 _ rfl; have c2 : wa.cell? ⟨b, off + j * 5 + 2, none⟩ = some (.int .i64 x.hg) := qa.2 2 _ rfl; have c3 : wa.cell? ⟨b, off + j * 5 + 3, none⟩ = some (.int .i64 x.ag) := qa.2 3 _ rfl; have c4 : wa.cell? ⟨b, off + j * 5 + 4, none⟩ = some (.int .i64 x.st) := qa.2 4 _ rfl; have d0 : wa.cell? ⟨b', off' + j * 5, none⟩ = some (.int .i64 x.home) := qb.2 0 _ rfl; have d1 : wa.cell? ⟨b', off' + j * 5 + 1, none⟩ = some (.int .i64 x.away) := qb.2 1 _ rfl; have d2 : wa.cell? ⟨b', off' + j * 5 + 2, none⟩ = some (.int .i64 x.hg) := qb.2 2 _ rfl; have d3 : wa.cell? ⟨b', off' + j * 5 + 3, none⟩ = some (.int .i64 x.ag) := qb.2 3 _ rfl; have d4 : wa.cell? ⟨b', off' + j * 5 + 4, none⟩ = some (.int .i64 x.st) := qb.2 4 _ rfl; go_simp; try with_reducible rfl)
      simp only [Act.put, List.getElem_toArray, List.getElem_cons_zero, List.getElem_cons_succ, List.setIfInBounds_toArray, List.set_cons_zero, List.set_cons_succ]
      refine wpAnyH_take (i := 2) (v := ?_) rfl (by kernel_rfl) (by kernel_rfl) (by kernel_rfl) (fun _ _ _ h => h) (Or.inl ⟨by rfl, ?_⟩) (by assumption) ?_
      rotate_left
      · (intro wa hSw; obtain ⟨qa, qb, hb⟩ := OS.out _ hSw; have c0 : wa.cell? ⟨b, off + j * 5, none⟩ = some (.int .i64 x.home) := qa.2 0 _ rfl; have c1 : wa.cell? ⟨b, off + j * 5 + 1, none⟩ = some (.int .i64 x.away) := qa.2 1 _ rfl; have c2 : wa.cell? ⟨b, off + j * 5 + 2, none⟩ = some (.int .i64 x.hg) := qa.2 2 _ rfl; have c3 : wa.cell? ⟨b, off + j * 5 + 3, none⟩ = some (.int .i64 x.ag) := qa.2 3 _ rfl; have c4 : wa.cell? ⟨b, off + j * 5 + 4, none⟩ = some (.int .i64 x.st) := qa.2 4 _ rfl; have d0 : wa.cell? ⟨b', off' + j * 5, none⟩ = some (.int .i64 x.home) := qb.2 0 _ rfl; have d1 : wa.cell? ⟨b', off' + j * 5 + 1, none⟩ = some (.int .i64 x.away) := qb.2 1 _ rfl; have d2 : wa.cell? ⟨b', off' + j * 5 + 2, none⟩ = some (.int .i64 x.hg) := qb.2 2 _ rfl; have d3 : wa.cell? ⟨b', off' + j * 5 + 3, none⟩ = some (.int .i64 x.ag) := qb.2 3 _ rfl; have d4 : wa.cell? ⟨b', off' + j * 5 + 4, none⟩ = some (.int .i64 x.st) := qb.2 4 _ rfl; go_simp; try with_reducible rfl)
      simp only [Act.put, List.getElem_toArray, List.getElem_cons_zero, List.getElem_cons_succ, List.setIfInBounds_toArray, List.set_cons_zero, List.set_cons_succ]
      refine wpAnyH_take (i := 3) (v := ?_) rfl (by kernel_rfl) (by kernel_rfl) (by kernel_rfl) (fun _ _ _ h => h) (Or.inl ⟨by rfl, ?_⟩) (by assumption) ?_
      rotate_left
      · (intro wa hSw; obtain ⟨qa, qb, hb⟩ := OS.out _ hSw; have c0 : wa.cell? ⟨b, off + j * 5, none⟩ = some (.int .i64 x.home) := qa.2 0 _ rfl; have c1 : wa.cell? ⟨b, off + j * 5 + 1, none⟩ = some (.int .i64 x.away) := qa.2 1 _ rfl; have c2 : wa.cell? ⟨b, off + j * 5 + 2, none⟩ = some (.int .i64 x.hg) := qa.2 2 _ rfl; have c3 : wa.cell? ⟨b, off + j * 5 + 3, none⟩ = some (.int .i64 x.ag) := qa.2 3 _ rfl; have c4 : wa.cell? ⟨b, off + j * 5 + 4, none⟩ = some (.int .i64 x.st) := qa.2 4 _ rfl; have d0 : wa.cell? ⟨b', off' + j * 5, none⟩ = some (.int .i64 x.home) := qb.2 0 _ rfl; have d1 : wa.cell? ⟨b', off' + j * 5 + 1, none⟩ = some (.int .i64 x.away) := qb.2 1 _ rfl; have d2 : wa.cell? ⟨b', off' + j * 5 + 2, none⟩ = some (.int .i64 x.hg) := qb.2 2 _ rfl; have d3 : wa.cell? ⟨b', off' + j * 5 + 3, none⟩ = some (.int .i64 x.ag) := qb.2 3 _ rfl; have d4 : wa.cell? ⟨b', off' + j * 5 + 4, none⟩ = some (.int .i64 x.st) := qb.2 4 _ rfl; go_simp; try with_reducible rfl)
      simp only [Act.put, List.getElem_toArray, List.getElem_cons_zero, List.getElem_cons_succ, List.setIfInBounds_toArray, List.set_cons_zero, List.set_cons_succ]
      refine wpAnyH_take (i := 4) (v := ?_) rfl (by kernel_rfl) (by kernel_rfl) (by kernel_rfl) (fun _ _ _ h => h) (Or.inl ⟨by rfl, ?_⟩) (by assumption) ?_
      rotate_left
      · (intro wa hSw; obtain ⟨qa, qb, hb⟩ := OS.out _ hSw; have c0 : wa.cell? ⟨b, off + j * 5, none⟩ = some (.int .i64 x.home) := qa.2 0 _ rfl; have c1 : wa.cell? ⟨b, off + j * 5 + 1, none⟩ = some (.int .i64 x.away) := qa.2 1 _ rfl; have c2 : wa.cell? ⟨b, off + j * 5 + 2, none⟩ = some (.int .i64 x.hg) := qa.2 2 _ rfl; have c3 : wa.cell? ⟨b, off + j * 5 + 3, none⟩ = some (.int .i64 x.ag) := qa.2 3 _ rfl; have c4 : wa.cell? ⟨b, off + j * 5 + 4, none⟩ = some (.int .i64 x.st) := qa.2 4 _ rfl; have d0 : wa.cell? ⟨b', off' + j * 5, none⟩ = some (.int .i64 x.home) := qb.2 0 _ rfl; have d1 : wa.cell? ⟨b', off' + j * 5 + 1, none⟩ = some (.int .i64 x.away) := qb.2 1 _ rfl; have d2 : wa.cell? ⟨b', off' + j * 5 + 2, none⟩ = some (.int .i64 x.hg) := qb.2 2 _ rfl; have d3 : wa.cell? ⟨b', off' + j * 5 + 3, none⟩ = some (.int .i64 x.ag) := qb.2 3 _ rfl; have d4 : wa.cell? ⟨b', off' + j * 5 + 4, none⟩ = some (.int .i64 x.st) := qb.2 4 _ rfl; go_simp; try with_reducible rfl)
      simp only [Act.put, List.getElem_toArray, List.getElem_cons_zero, List.getElem_cons_succ, List.setIfInBounds_toArray, List.set_cons_zero, List.set_cons_succ]
      refine wpAnyH_take (i := 5) (v := ?_) rfl (by kernel_rfl) (by kernel_rfl) (by kernel_rfl) (fun _ _ _ h => h) (Or.inl ⟨by rfl, ?_⟩) (by assumption) ?_
      rotate_left
      · (intro wa hSw; obtain ⟨qa, qb, hb⟩ := OS.out _ hSw; have c0 : wa.cell? ⟨b, off + j * 5, none⟩ = some (.int .i64 x.home) := qa.2 0 _ rfl; have c1 : wa.cell? ⟨b, off + j * 5 + 1, none⟩ = some (.int .i64 x.away) := qa.2 1 _ rfl; have c2 : wa.cell? ⟨b, off + j * 5 + 2, none⟩ = some (.int .i64 x.hg) := qa.2 2 _ rfl; have c3 : wa.cell? ⟨b, off + j * 5 + 3, none⟩ = some (.int .i64 x.ag) := qa.2 3 _ rfl; have c4 : wa.cell? ⟨b, off + j * 5 + 4, none⟩ = some (.int .i64 x.st) := qa.2 4 _ rfl; have d0 : wa.cell? ⟨b', off' + j * 5, none⟩ = some (.int .i64 x.home) := qb.2 0 _ rfl; have d1 : wa.cell? ⟨b', off' + j * 5 + 1, none⟩ = some (.int .i64 x.away) := qb.2 1 _ rfl; have d2 : wa.cell? ⟨b', off' + j * 5 + 2, none⟩ = some (.int .i64 x.hg) := qb.2 2 _ rfl; have d3 : wa.cell? ⟨b', off' + j * 5 + 3, none⟩ = some (.int .i64 x.ag) := qb.2 3 _ rfl; have d4 : wa.cell? ⟨b', off' + j * 5 + 4, none⟩ = some (.int .i64 x.st) := qb.2 4 _ rfl; go_simp; try with_reducible rfl)
      simp only [Act.put, List.getElem_toArray, List.getElem_cons_zero, List.getElem_cons_succ, List.setIfInBounds_toArray, List.set_cons_zero, List.set_cons_succ]
      refine wpAnyH_take (i := 6) (v := ?_) rfl (by kernel_rfl) (by kernel_rfl) (by kernel_rfl) (fun _ _ _ h => h) (Or.inl ⟨by rfl, ?_⟩) (by assumption) ?_
      rotate_left
      · (intro wa hSw; obtain ⟨qa, qb, hb⟩ := OS.out _ hSw; have c0 : wa.cell? ⟨b, off + j * 5, none⟩ = some (.int .i64 x.home) := qa.2 0 _ rfl; have c1 : wa.cell? ⟨b, off + j * 5 + 1, none⟩ = some (.int .i64 x.away) := qa.2 1 _ rfl; have c2 : wa.cell? ⟨b, off + j * 5 + 2, none⟩ = some (.int .i64 x.hg) := qa.2 2 _ rfl; have c3 : wa.cell? ⟨b, off + j * 5 + 3, none⟩ = some (.int .i64 x.ag) := qa.2 3 _ rfl; have c4 : wa.cell? ⟨b, off + j * 5 + 4, none⟩ = some (.int .i64 x.st) := qa.2 4 _ rfl; have d0 : wa.cell? ⟨b', off' + j * 5, none⟩ = some (.int .i64 x.home) := qb.2 0 _ rfl; have d1 : wa.cell? ⟨b', off' + j * 5 + 1, none⟩ = some (.int .i64 x.away) := qb.2 1 _ rfl; have d2 : wa.cell? ⟨b', off' + j * 5 + 2, none⟩ = some (.int .i64 x.hg) := qb.2 2 _ rfl; have d3 : wa.cell? ⟨b', off' + j * 5 + 3, none⟩ = some (.int .i64 x.ag) := qb.2 3 _ rfl; have d4 : wa.cell? ⟨b', off' + j * 5 + 4, none⟩ = some (.int .i64 x.st) := qb.2 4 _ rfl; go_simp; try with_reducible rfl)
      simp only [Act.put, List.getElem_toArray, List.getElem_cons_zero, List.getElem_cons_succ, List.setIfInBounds_toArray, List.set_cons_zero, List.set_cons_succ]
      refine wpAnyH_take (i := 7) (v := ?_) rfl (by kernel_rfl) (by kernel_rfl) (by kernel_rfl) (fun _ _ _ h => h) (Or.inl ⟨by rfl, ?_⟩) (by assumption) ?_
      rotate_left
      · (intro wa hSw; obtain ⟨qa, qb, hb⟩ := OS.out _ hSw; have c0 : wa.cell? ⟨b, off + j * 5, none⟩ = some (.int .i64 x.home) := qa.2 0 _ rfl; have c1 : wa.cell? ⟨b, off + j * 5 + 1, none⟩ = some (.int .i64 x.away) := qa.2 1 _ rfl; have c2 : wa.cell? ⟨b, off + j * 5 + 2, none⟩ = some (.int .i64 x.hg) := qa.2 2 _ rfl; have c3 : wa.cell? ⟨b, off + j * 5 + 3, none⟩ = some (.int .i64 x.ag) := qa.2 3 _ rfl; have c4 : wa.cell? ⟨b, off + j * 5 + 4, none⟩ = some (.int .i64 x.st) := qa.2 4 _ rfl; have d0 : wa.cell? ⟨b', off' + j * 5, none⟩ = some (.int .i64 x.home) := qb.2 0 _ rfl; have d1 : wa.cell? ⟨b', off' + j * 5 + 1, none⟩ = some (.int .i64 x.away) := qb.2 1 _ rfl; have d2 : wa.cell? ⟨b', off' + j * 5 + 2, none⟩ = some (.int .i64 x.hg) := qb.2 2 _ rfl; have d3 : wa.cell? ⟨b', off' + j * 5 + 3, none⟩ = some (.int .i64 x.ag) := qb.2 3 _ rfl; have d4 : wa.cell? ⟨b', off' + j * 5 + 4, none⟩ = some (.int .i64 x.st) := qb.2 4 _ rfl; go_simp; try with_reducible rfl)
      simp only [Act.put, List.getElem_toArray, List.getElem_cons_zero, List.getElem_cons_succ, List.setIfInBounds_toArray, List.set_cons_zero, List.set_cons_succ]
      refine wpAnyH_ready (rs := [8]) (by kernel_rfl) (by simp) ?_
      refine AllReadyH.cons (o := _) rfl (fun K hK => ?_) AllReadyH.nil
      go_simp
      obtain ⟨qa, qb, hb⟩ := OS.out _ hHeld
      refine (x_eq_Game x.home x.away x.hg x.ag x.st _).mono ?_
      rintro e w101 ⟨rfl, b101⟩
      clear qa qb hb
      (try go_wp2_with fail)
      refine hK.out _ _ ?_ (fun hHeld101 => ?_)
      · exact KS.out _ _ hHeld b101
      clear hK K
      refine wpAnyH_take (i := 9) (v := ?_) rfl (by kernel_rfl) (by kernel_rfl) (by kernel_rfl) (fun _ _ _ h => h) (Or.inl ⟨by rfl, ?_⟩) (by assumption) ?_
      rotate_left
      · (intro wa hSw; obtain ⟨qa, qb, hb⟩ := OS.out _ hSw; have c0 : wa.cell? ⟨b, off + j * 5, none⟩ = some (.int .i64 x.home) := qa.2 0 _ rfl; have c1 : wa.cell? ⟨b, off + j * 5 + 1, none⟩ = some (.int .i64 x.away) := qa.2 1 _ rfl; have c2 : wa.cell? ⟨b, off + j * 5 + 2, none⟩ = some (.int .i64 x.hg) := qa.2 2 _ rfl; have c3 : wa.cell? ⟨b, off + j * 5 + 3, none⟩ = some (.int .i64 x.ag) := qa.2 3 _ rfl; have c4 : wa.cell? ⟨b, off + j * 5 + 4, none⟩ = some (.int .i64 x.st) := qa.2 4 _ rfl; have d0 : wa.cell? ⟨b', off' + j * 5, none⟩ = some (.int .i64 x.home) := qb.2 0 _ rfl; have d1 : wa.cell? ⟨b', off' + j * 5 + 1, none⟩ = some (.int .i64 x.away) := qb.2 1 _ rfl; have d2 : wa.cell? ⟨b', off' + j * 5 + 2, none⟩ = some (.int .i64 x.hg) := qb.2 2 _ rfl; have d3 : wa.cell? ⟨b', off' + j * 5 + 3, none⟩ = some (.int .i64 x.ag) := qb.2 3 _ rfl; have d4 : wa.cell? ⟨b', off' + j * 5 + 4, none⟩ = some (.int .i64 x.st) := qb.2 4 _ rfl; go_simp; try with_reducible rfl)
      simp only [Act.put, List.getElem_toArray, List.getElem_cons_zero, List.getElem_cons_succ, List.setIfInBounds_toArray, List.set_cons_zero, List.set_cons_succ]
      refine wpAnyH_done (by kernel_rfl) ?_ _
      obtain ⟨qa, qb, hb⟩ := OS.out _ hHeld101
      clear KS OS hHeld hHeld101
      go_wp2
      go_roundw
      case rel => exact ⟨j + 1, by omega, by go_num, hb⟩
      case measure => simp [RowKit.intOf]; omega
    · go_wp2
      go_ret
      exact ⟨rfl, hb⟩
def gameMk (k : Int) (i : Nat) : GameD := ⟨k + 5 * (i : Int), k + 5 * (i : Int) + 1, k + 5 * (i : Int) + 1 + 1, k + 5 * (i : Int) + 1 + 1 + 1, k + 5 * (i : Int) + 1 + 1 + 1 + 1⟩
theorem tgrownGame {a b c : World} {row : Option Nat} (h : a.grownBy b row) (k : b.grownBy c row) : a.grownBy c row :=
  ⟨k.os.trans h.os, k.tape.trans h.tape, k.output.trans h.output, Nat.le_trans h.size k.size, fun i hi hne => (k.block i (Nat.lt_of_lt_of_le hi h.size) hne).trans (h.block i hi hne)⟩
set_option maxHeartbeats 1000000 in
theorem x_mk_GameS (v : Value) (n : Nat) (k : Int) (lo hi base : Nat) (xs : List Value) (w : World) (hown : w.ownsRow base 127 5 v n xs) (hin : InW lo hi v) (h0 : 0 < k) (hk : k + 5 * n ≤ 1000000000000) :
    Calls Tryz.prog 58 #[v, .int .i64 k] w fun e w' => e = .returned (.int .i64 (k + 5 * (n : Int))) ∧ GameRow w' v n (gameMk k) ∧ Touch lo hi w w' := by
  obtain ⟨a, cap, rfl, hv⟩ : ∃ a cap, v = .slice a n cap ∧ (0 < n → ∃ g, a = some ⟨g, 0, none⟩ ∧ base ≤ g) := by
    rcases hown.2 with ⟨rfl, rfl⟩ | ⟨g, cap, cur, rfl, hg, _⟩
    · exact ⟨_, _, rfl, fun h => absurd h (by omega)⟩
    · exact ⟨_, _, rfl, fun _ => ⟨g, rfl, hg⟩⟩
  have HV := Lib.hid hv
  have HI := Lib.hid hin
  clear hv hin
  go_enter Tryz.func58, Tryz.ntmps58
  go_wp2
  go_loopw [1, 5] (fun kv i wr => ∃ (j : Nat) (ys : List Value), j ≤ n ∧ i = .int .i64 j ∧ kv = .int .i64 (k + 5 * (j : Int)) ∧ wr.ownsRow base 127 5 (.slice a n cap) n ys ∧ Hid (RecCells 5 j ys fun i => (gameMk k i).cells) ∧ w.grownBy wr (Value.slice a n cap).ownBlock)
    (fun _ i _ => n - (RowKit.intOf i).toNat)
  case atStart => exact ⟨0, xs, Nat.zero_le _, rfl, by go_num, hown, RecCells.nil, ⟨rfl, rfl, rfl, Nat.le_refl _, fun _ _ _ => rfl⟩⟩
  case round =>
    obtain ⟨j, ys, hj, rfl, rfl, hown', hys, hgr⟩ := hrel
    clear hown
    by_cases hlt : j < n
    · obtain ⟨g, rfl, hg⟩ := HV.out (by omega)
      obtain ⟨u0, e0⟩ := owns_cellR hown' (j * 5) (by omega)
      have f0 := hown'.frozenAt (j * 5)
      obtain ⟨u1, e1⟩ := owns_cellR hown' (j * 5 + 1) (by omega)
      have f1 := hown'.frozenAt (j * 5 + 1)
      obtain ⟨u2, e2⟩ := owns_cellR hown' (j * 5 + 2) (by omega)
      have f2 := hown'.frozenAt (j * 5 + 2)
      obtain ⟨u3, e3⟩ := owns_cellR hown' (j * 5 + 3) (by omega)
      have f3 := hown'.frozenAt (j * 5 + 3)
      obtain ⟨u4, e4⟩ := owns_cellR hown' (j * 5 + 4) (by omega)
      have f4 := hown'.frozenAt (j * 5 + 4)
      have HL := Lib.hid hown'.1
      clear HV
      go_wp2
      go_roundw
      case rel => exact ⟨j + 1, _, by omega, by go_num, by go_num, (((((hown'.stored (j * 5) _).1.stored (j * 5 + 1) _).1.stored (j * 5 + 2) _).1.stored (j * 5 + 3) _).1.stored (j * 5 + 4) _).1, hys.out.sets (cs := [.int .i64 (k + 5 * (j : Int)), .int .i64 (k + 5 * (j : Int) + 1), .int .i64 (k + 5 * (j : Int) + 1 + 1), .int .i64 (k + 5 * (j : Int) + 1 + 1 + 1), .int .i64 (k + 5 * (j : Int) + 1 + 1 + 1 + 1)]) HL.out hlt (by simp [gameMk, GameD.cells]) rfl (fun _ _ => Nat.le_refl _), tgrownGame (tgrownGame (tgrownGame (tgrownGame (tgrownGame hgr (hown'.stored (j * 5) _).2) ((hown'.stored (j * 5) _).1.stored (j * 5 + 1) _).2) (((hown'.stored (j * 5) _).1.stored (j * 5 + 1) _).1.stored (j * 5 + 2) _).2) ((((hown'.stored (j * 5) _).1.stored (j * 5 + 1) _).1.stored (j * 5 + 2) _).1.stored (j * 5 + 3) _).2) (((((hown'.stored (j * 5) _).1.stored (j * 5 + 1) _).1.stored (j * 5 + 2) _).1.stored (j * 5 + 3) _).1.stored (j * 5 + 4) _).2⟩
      case measure => simp [RowKit.intOf]; omega
    · obtain rfl : j = n := by omega
      go_wp2
      go_ret
      exact ⟨rfl, RecRow.of_owns hown' (by omega) hys.out (fun _ _ => Nat.le_refl _), Touch.grown hgr HI.out⟩
section
open Go.ChangeShapes Go.WideShapes
variable {H : Type} {enc : TypeId × Value → H} {P : Program} {w : World} {base : Nat} {spare : Nat → Bool} {held : Bool}
theorem open_games {t e : TypeId} {f0 f1 f2 f3 f4 : Field} {v : Value} (ht : P.underlying t = some (.slice e)) (he : P.underlying e = some (.struct #[f0, f1, f2, f3, f4]))
    (ce : P.cellsOf e = 5) (o0 : f0.offset = 0) (c0 : P.cellsOf f0.type = 1) (u0 : P.underlying f0.type = some (.int .i64)) (o1 : f1.offset = 1) (c1 : P.cellsOf f1.type = 1) (u1 : P.underlying f1.type = some (.int .i64)) (o2 : f2.offset = 2) (c2 : P.cellsOf f2.type = 1) (u2 : P.underlying f2.type = some (.int .i64)) (o3 : f3.offset = 3) (c3 : P.cellsOf f3.type = 1) (u3 : P.underlying f3.type = some (.int .i64)) (o4 : f4.offset = 4) (c4 : P.cellsOf f4.type = 1) (u4 : P.underlying f4.type = some (.int .i64))
    (h : ∃ (fuel : Nat) (x : DataW H × List MemPlace), DataW.trod enc P w base spare held fuel t [v] = some x) : ∃ (n : Nat) (g : Nat → GameD), GameRow w v n g ∧ (∀ i, (g i).fit) ∧ n ≤ 9223372036854775807 := by
  obtain ⟨fuel, x, h⟩ := h
  have hz : (default : GameD).fit := by simp [GameD.fit, IntFit, default]
  rcases Go.Deep.open_slice ht h with ⟨h0, _⟩ | ⟨a, len, cap, m, q, D, Pl, h0, hb, hl, hm, hmm, rfl, hx⟩
  · simp only [List.cons.injEq, and_true] at h0
    subst h0
    exact ⟨0, fun _ => default, .inl ⟨_, _, rfl, rfl⟩, fun _ => hz, by omega⟩
  simp only [List.cons.injEq, and_true] at h0
  subst h0
  have hlm : len ≤ m := by rw [hmm]; split <;> omega
  have each : ∀ i, i < len → ∃ q : GameD, (∀ j u, q.cells[j]? = some u → w.cell? ((a.add (i * 5)).add j) = some u) ∧ q.fit := by
    intro i hi
    obtain ⟨cs', h1, h2⟩ := hx i (by omega)
    rw [ce] at h1
    obtain ⟨_, hlen, hcell⟩ := World.cells?_some h1
    obtain ⟨xs, kk, hk, hxy, _, hxl, hf⟩ := DataW.trod_struct he h2
    match xs, hxl, cs', hlen with
    | [y0, y1, y2, y3, y4], _, [v0, v1, v2, v3, v4], _ =>
      have g0 := hf 0 f0 rfl
      simp [o0, c0] at g0
      obtain ⟨z0, e0, _, k0⟩ := DataW.trod_int u0 g0
      simp only [List.cons.injEq, and_true] at e0
      subst e0
      have g1 := hf 1 f1 rfl
      simp [o1, c1] at g1
      obtain ⟨z1, e1, _, k1⟩ := DataW.trod_int u1 g1
      simp only [List.cons.injEq, and_true] at e1
      subst e1
      have g2 := hf 2 f2 rfl
      simp [o2, c2] at g2
      obtain ⟨z2, e2, _, k2⟩ := DataW.trod_int u2 g2
      simp only [List.cons.injEq, and_true] at e2
      subst e2
      have g3 := hf 3 f3 rfl
      simp [o3, c3] at g3
      obtain ⟨z3, e3, _, k3⟩ := DataW.trod_int u3 g3
      simp only [List.cons.injEq, and_true] at e3
      subst e3
      have g4 := hf 4 f4 rfl
      simp [o4, c4] at g4
      obtain ⟨z4, e4, _, k4⟩ := DataW.trod_int u4 g4
      simp only [List.cons.injEq, and_true] at e4
      subst e4
      refine ⟨⟨z0, z1, z2, z3, z4⟩, fun j u hu => ?_, ⟨intFit_of k0, intFit_of k1, intFit_of k2, intFit_of k3, intFit_of k4⟩⟩
      have hj : j < 5 := (List.getElem?_eq_some_iff.1 hu).1
      rw [hcell j hj]
      exact hu
  obtain ⟨g, hg⟩ := Go.Deep.choose_lt each
  have hfit : ∀ i, (if i < len then g i else default : GameD).fit := fun i => by
    by_cases hi : i < len
    · simpa [hi] using (hg i hi).2
    · simpa [hi] using hz
  unfold maxLen at hm
  refine ⟨len, fun i => if i < len then g i else default, ?_, hfit, by omega⟩
  by_cases h0 : len = 0
  · subst h0; exact .inl ⟨_, _, rfl, rfl⟩
  · have hc0 := (hg 0 (by omega)).1 0 _ rfl
    obtain ⟨b, off, spot⟩ := a
    have hspot : spot = none := by simpa [Addr.add] using World.cell?_spot hc0
    subst hspot
    have hadd : ∀ j, (⟨b, off, none⟩ : Addr).add j = ⟨b, off + j, none⟩ := fun j => by unfold Addr.add; split <;> simp_all
    have hadd2 : ∀ o j, (⟨b, o, none⟩ : Addr).add j = ⟨b, o + j, none⟩ := fun o j => by unfold Addr.add; split <;> simp_all
    simp only [hadd, hadd2] at hc0
    refine .inr ⟨b, off, cap, rfl, by omega, by omega, fun i hi => ⟨World.block_lt_of_cell? w _ hc0, fun j u hu => ?_⟩, hl⟩
    have := (hg i hi).1
    simp only [hadd, hadd2] at this
    simp only [hi, if_true] at hu
    exact this j u hu
end
section
open Go.ChangeShapes Go.WideShapes
variable {H : Type} {enc : TypeId × Value → H} {P : Program} {w : World} {base : Nat} {spare : Nat → Bool} {held : Bool}
theorem open_game {r : Reach} {b0 : Nat} {e : TypeId} {f0 f1 f2 f3 f4 : Field} {v : Value} {d : DataW H} {pl : List MemPlace} (he : P.underlying e = some (.struct #[f0, f1, f2, f3, f4]))
    (ce : P.cellsOf e = 5) (o0 : f0.offset = 0) (c0 : P.cellsOf f0.type = 1) (u0 : P.underlying f0.type = some (.int .i64)) (o1 : f1.offset = 1) (c1 : P.cellsOf f1.type = 1) (u1 : P.underlying f1.type = some (.int .i64)) (o2 : f2.offset = 2) (c2 : P.cellsOf f2.type = 1) (u2 : P.underlying f2.type = some (.int .i64)) (o3 : f3.offset = 3) (c3 : P.cellsOf f3.type = 1) (u3 : P.underlying f3.type = some (.int .i64)) (o4 : f4.offset = 4) (c4 : P.cellsOf f4.type = 1) (u4 : P.underlying f4.type = some (.int .i64))
    (hv : Value.okWide P w r b0 e v) (h : DataW.Trod enc P w base spare held e v d pl) : ∃ q : GameD, v = q.val ∧ q.fit := by
  obtain ⟨cs, rfl, hsz⟩ := okWide_struct he hv
  obtain ⟨l⟩ := cs
  obtain ⟨fuel, h⟩ := h
  obtain ⟨xs, kk, hk, hxy, _, hxl, hf⟩ := DataW.trod_struct he h
  match xs, hxl, l, hsz.trans ce with
  | [y0, y1, y2, y3, y4], _, [v0, v1, v2, v3, v4], _ =>
      have g0 := hf 0 f0 rfl
      simp [Value.cells, o0, c0] at g0
      obtain ⟨z0, e0, _, k0⟩ := DataW.trod_int u0 g0
      simp only [List.cons.injEq, and_true] at e0
      subst e0
      have g1 := hf 1 f1 rfl
      simp [Value.cells, o1, c1] at g1
      obtain ⟨z1, e1, _, k1⟩ := DataW.trod_int u1 g1
      simp only [List.cons.injEq, and_true] at e1
      subst e1
      have g2 := hf 2 f2 rfl
      simp [Value.cells, o2, c2] at g2
      obtain ⟨z2, e2, _, k2⟩ := DataW.trod_int u2 g2
      simp only [List.cons.injEq, and_true] at e2
      subst e2
      have g3 := hf 3 f3 rfl
      simp [Value.cells, o3, c3] at g3
      obtain ⟨z3, e3, _, k3⟩ := DataW.trod_int u3 g3
      simp only [List.cons.injEq, and_true] at e3
      subst e3
      have g4 := hf 4 f4 rfl
      simp [Value.cells, o4, c4] at g4
      obtain ⟨z4, e4, _, k4⟩ := DataW.trod_int u4 g4
      simp only [List.cons.injEq, and_true] at e4
      subst e4
      exact ⟨⟨z0, z1, z2, z3, z4⟩, rfl, ⟨intFit_of k0, intFit_of k1, intFit_of k2, intFit_of k3, intFit_of k4⟩⟩
end
end Go.Proofs.YteciobkjfmddcaaGreat
set_option linter.unusedVariables false
namespace Go.Proofs.YteciobkjfmddcaaGreat
open Go.RowKit

def firstI (p : Nat → Bool) : Nat → Nat → Int
  | 0, _ => -1
  | r + 1, k => if p k = true then (k : Int) else firstI p r (k + 1)
theorem firstI_pos (p : Nat → Bool) (r : Nat) : ∀ k, 0 ≤ firstI p r k ↔ ∃ j, k ≤ j ∧ j < k + r ∧ p j = true := by
  induction r with
  | zero => intro k; unfold firstI; constructor
            · intro h; omega
            · rintro ⟨j, h1, h2, _⟩; omega
  | succ r ih =>
    intro k
    unfold firstI
    by_cases h : p k = true
    · rw [if_pos h]
      exact ⟨fun _ => ⟨k, Nat.le_refl _, by omega, h⟩, fun _ => by omega⟩
    · rw [if_neg h, ih (k + 1)]
      constructor
      · rintro ⟨j, h1, h2, h3⟩; exact ⟨j, by omega, by omega, h3⟩
      · rintro ⟨j, h1, h2, h3⟩
        refine ⟨j, ?_, by omega, h3⟩
        rcases Nat.lt_or_ge k j with h4 | h4
        · omega
        · obtain rfl : j = k := by omega
          exact absurd h3 h
theorem firstI_step {p : Nat → Bool} {k n : Nat} (h : k < n) : firstI p (n - k) k = if p k = true then (k : Int) else firstI p (n - (k + 1)) (k + 1) := by
  rw [show n - k = n - (k + 1) + 1 by omega]; rfl
theorem firstI_ge (p : Nat → Bool) (r : Nat) : ∀ k, firstI p r k = -1 ∨ (k : Int) ≤ firstI p r k ∧ firstI p r k < (k : Int) + r := by
  induction r with
  | zero => intro k; exact .inl rfl
  | succ r ih =>
    intro k
    unfold firstI
    by_cases h : p k = true
    · rw [if_pos h]; right; omega
    · rw [if_neg h]
      rcases ih (k + 1) with h1 | h1
      · exact .inl h1
      · right; omega
theorem firstI_congr {p q : Nat → Bool} (r : Nat) : ∀ k, (∀ i, k ≤ i → i < k + r → p i = q i) → firstI p r k = firstI q r k := by
  induction r with
  | zero => intro k _; rfl
  | succ r ih =>
    intro k h
    unfold firstI
    rw [h k (Nat.le_refl _) (by omega), ih (k + 1) fun i h1 h2 => h i (by omega) (by omega)]
theorem firstI_eq {p : Nat → Bool} (r : Nat) : ∀ k j, firstI p r k = (j : Nat) ↔ (k ≤ j ∧ j < k + r) ∧ p j = true ∧ ∀ i, k ≤ i → i < j → p i = false := by
  induction r with
  | zero => intro k j; unfold firstI; constructor
            · intro h; omega
            · rintro ⟨h, _⟩; omega
  | succ r ih =>
    intro k j
    unfold firstI
    by_cases h : p k = true
    · rw [if_pos h]
      constructor
      · intro e
        obtain rfl : k = j := by omega
        exact ⟨by omega, h, fun i h1 h2 => by omega⟩
      · rintro ⟨h1, h2, h3⟩
        by_cases e : k = j
        · rw [e]
        · have := h3 k (Nat.le_refl _) (by omega)
          rw [h] at this; cases this
    · rw [if_neg h, ih (k + 1) j]
      have hk : p k = false := by simpa using h
      constructor
      · rintro ⟨h1, h2, h3⟩
        refine ⟨by omega, h2, fun i h4 h5 => ?_⟩
        by_cases e : i = k
        · rw [e]; exact hk
        · exact h3 i (by omega) h5
      · rintro ⟨h1, h2, h3⟩
        have : k ≠ j := fun e => by rw [e] at hk; rw [hk] at h2; cases h2
        exact ⟨by omega, h2, fun i h4 h5 => h3 i (by omega) h5⟩
def idxL (p : Nat → Bool) : Nat → List Int
  | 0 => []
  | k + 1 => if p k = true then idxL p k ++ [(k : Int)] else idxL p k
theorem idxL_yes {p : Nat → Bool} {k : Nat} (h : p k = true) : idxL p (k + 1) = idxL p k ++ [(k : Int)] := if_pos h
theorem idxL_no {p : Nat → Bool} {k : Nat} (h : p k = false) : idxL p (k + 1) = idxL p k := if_neg (by rw [h]; simp)
theorem idxL_len (p : Nat → Bool) : ∀ k, (idxL p k).length ≤ k := by
  intro k
  induction k with
  | zero => exact Nat.le_refl _
  | succ k ih =>
    unfold idxL
    split
    · simp; omega
    · omega
theorem idxL_congr {p q : Nat → Bool} : ∀ k, (∀ i, i < k → p i = q i) → idxL p k = idxL q k := by
  intro k
  induction k with
  | zero => intro _; rfl
  | succ k ih => intro h; unfold idxL; rw [h k (by omega), ih fun i hi => h i (by omega)]
def IntsL (w : World) (L : List Int) (e : Ending) (w' : World) : Prop :=
  ∃ v, e = .returned v ∧ w'.ownsRow w.heap.size 3 1 v L.length (L.map (Value.int .i64)) ∧ Below w.heap.size w w'
theorem IntsL.made {w w' : World} {L : List Int} {e : Ending} (h : IntsL w L e w') (hl : L.length ≤ 9223372036854775807) :
    ∃ v, e = .returned v ∧ IntRow w' v L.length (getI L) ∧ (∃ xs, w'.ownsRow w.heap.size 3 1 v L.length xs) ∧ Below w.heap.size w w' := by
  obtain ⟨v, he, ho, hb⟩ := h
  exact ⟨v, he, IntRow.of_list ho (by omega), ⟨_, ho⟩, hb⟩
end Go.Proofs.YteciobkjfmddcaaGreat
set_option linter.unusedVariables false
namespace Go.Proofs.YteciobkjfmddcaaGreat
open Go.RowKit


def gameP (n : Int) (t : GameD) : Prop :=
  (2 ≤ n ∧ n ≤ 8) ∧ (0 ≤ t.home ∧ t.home ≤ n - 1) ∧ (0 ≤ t.away ∧ t.away ≤ n - 1) ∧ t.home ≠ t.away ∧ (0 ≤ t.st ∧ t.st ≤ 4) ∧
    ((t.st = 1 ∧ (0 ≤ t.hg ∧ t.hg ≤ 99) ∧ (0 ≤ t.ag ∧ t.ag ≤ 99)) ∨ (t.st ≠ 1 ∧ t.hg = 0 ∧ t.ag = 0))
theorem gameOk_spec (n : Int) (home away hg ag st : Int) (R : Bool) (w : World) (hR : R = true ↔ gameP n ⟨home, away, hg, ag, st⟩) :
    Calls Tryz.prog 119 #[.int .i64 n, .agg #[.int .i64 home, .int .i64 away, .int .i64 hg, .int .i64 ag, .int .i64 st]] w fun e w' => e = .returned (.bool R) ∧ Below w.heap.size w w' := by
  have hno : ¬ gameP n ⟨home, away, hg, ag, st⟩ → R = false := fun h => by
    cases R with
    | false => rfl
    | true => exact absurd (hR.1 rfl) h
  have hyes : gameP n ⟨home, away, hg, ag, st⟩ → R = true := hR.2
  have HN := Lib.hid hno
  have HY := Lib.hid hyes
  clear hR hno hyes
  by_cases h0 : 2 ≤ n ∧ n ≤ 8
  case neg =>
    obtain rfl := HN.out fun h => h0 h.1
    clear HN HY
    go_enter Tryz.func119, Tryz.ntmps119
    go_wp2_with (go_at_call 45; first | (refine (l01In_yes _ _ _ _ (by omega)).mono ?_; rintro e w' ⟨rfl, rfl⟩) | (refine (l01In_no _ _ _ _ (by omega)).mono ?_; rintro e w' ⟨rfl, rfl⟩))
    go_ret
    exact ⟨rfl, (Below.refl _ _).alloc (Nat.le_refl _) _⟩
  by_cases h1 : 0 ≤ home ∧ home ≤ n - 1
  case neg =>
    obtain rfl := HN.out fun h => h1 h.2.1
    clear HN HY
    go_enter Tryz.func119, Tryz.ntmps119
    go_wp2_with (go_at_call 45; first | (refine (l01In_yes _ _ _ _ (by omega)).mono ?_; rintro e w' ⟨rfl, rfl⟩) | (refine (l01In_no _ _ _ _ (by omega)).mono ?_; rintro e w' ⟨rfl, rfl⟩))
    go_ret
    exact ⟨rfl, (Below.refl _ _).alloc (Nat.le_refl _) _⟩
  by_cases h2 : 0 ≤ away ∧ away ≤ n - 1
  case neg =>
    obtain rfl := HN.out fun h => h2 h.2.2.1
    clear HN HY
    go_enter Tryz.func119, Tryz.ntmps119
    go_wp2_with (go_at_call 45; first | (refine (l01In_yes _ _ _ _ (by omega)).mono ?_; rintro e w' ⟨rfl, rfl⟩) | (refine (l01In_no _ _ _ _ (by omega)).mono ?_; rintro e w' ⟨rfl, rfl⟩))
    go_ret
    exact ⟨rfl, (Below.refl _ _).alloc (Nat.le_refl _) _⟩
  by_cases h3 : home = away
  · obtain rfl := HN.out fun h => h.2.2.2.1 h3
    have g1 : (home == away) = true := by simpa using h3
    have H3 := Lib.hid h3
    clear HN HY h3
    go_enter Tryz.func119, Tryz.ntmps119
    go_wp2_with (go_at_call 45; first | (refine (l01In_yes _ _ _ _ (by omega)).mono ?_; rintro e w' ⟨rfl, rfl⟩) | (refine (l01In_no _ _ _ _ (by omega)).mono ?_; rintro e w' ⟨rfl, rfl⟩))
    go_ret
    exact ⟨rfl, (Below.refl _ _).alloc (Nat.le_refl _) _⟩
  have g1 : (home == away) = false := beq_eq_false_iff_ne.2 h3
  by_cases h4 : 0 ≤ st ∧ st ≤ 4
  case neg =>
    obtain rfl := HN.out fun h => h4 h.2.2.2.2.1
    clear HN HY h3
    go_enter Tryz.func119, Tryz.ntmps119
    go_wp2_with (go_at_call 45; first | (refine (l01In_yes _ _ _ _ (by omega)).mono ?_; rintro e w' ⟨rfl, rfl⟩) | (refine (l01In_no _ _ _ _ (by omega)).mono ?_; rintro e w' ⟨rfl, rfl⟩))
    go_ret
    exact ⟨rfl, (Below.refl _ _).alloc (Nat.le_refl _) _⟩
  by_cases h5 : st = 1
  · by_cases h6 : 0 ≤ hg ∧ hg ≤ 99
    case neg =>
      obtain rfl := HN.out fun h => h.2.2.2.2.2.elim (fun h => h6 h.2.1) fun h => h.1 h5
      subst h5
      clear HN HY h3
      go_enter Tryz.func119, Tryz.ntmps119
      go_wp2_with (go_at_call 45; first | (refine (l01In_yes _ _ _ _ (by omega)).mono ?_; rintro e w' ⟨rfl, rfl⟩) | (refine (l01In_no _ _ _ _ (by omega)).mono ?_; rintro e w' ⟨rfl, rfl⟩))
      go_ret
      exact ⟨rfl, (Below.refl _ _).alloc (Nat.le_refl _) _⟩
    by_cases h7 : 0 ≤ ag ∧ ag ≤ 99
    case neg =>
      obtain rfl := HN.out fun h => h.2.2.2.2.2.elim (fun h => h7 h.2.2) fun h => h.1 h5
      subst h5
      clear HN HY h3
      go_enter Tryz.func119, Tryz.ntmps119
      go_wp2_with (go_at_call 45; first | (refine (l01In_yes _ _ _ _ (by omega)).mono ?_; rintro e w' ⟨rfl, rfl⟩) | (refine (l01In_no _ _ _ _ (by omega)).mono ?_; rintro e w' ⟨rfl, rfl⟩))
      go_ret
      exact ⟨rfl, (Below.refl _ _).alloc (Nat.le_refl _) _⟩
    obtain rfl := HY.out ⟨h0, h1, h2, h3, h4, .inl ⟨h5, h6, h7⟩⟩
    subst h5
    clear HN HY h3
    go_enter Tryz.func119, Tryz.ntmps119
    go_wp2_with (go_at_call 45; first | (refine (l01In_yes _ _ _ _ (by omega)).mono ?_; rintro e w' ⟨rfl, rfl⟩) | (refine (l01In_no _ _ _ _ (by omega)).mono ?_; rintro e w' ⟨rfl, rfl⟩))
    go_ret
    exact ⟨rfl, (Below.refl _ _).alloc (Nat.le_refl _) _⟩
  have g2 : (st != 1) = true := bne_iff_ne.2 h5
  by_cases h6 : hg = 0
  case neg =>
    obtain rfl := HN.out fun h => h.2.2.2.2.2.elim (fun h => h5 h.1) fun h => h6 h.2.1
    have g3 : (hg == 0) = false := beq_eq_false_iff_ne.2 h6
    clear HN HY h3 h5 h6
    go_enter Tryz.func119, Tryz.ntmps119
    go_wp2_with (go_at_call 45; first | (refine (l01In_yes _ _ _ _ (by omega)).mono ?_; rintro e w' ⟨rfl, rfl⟩) | (refine (l01In_no _ _ _ _ (by omega)).mono ?_; rintro e w' ⟨rfl, rfl⟩))
    go_ret
    exact ⟨rfl, (Below.refl _ _).alloc (Nat.le_refl _) _⟩
  subst h6
  by_cases h7 : ag = 0
  · obtain rfl := HY.out ⟨h0, h1, h2, h3, h4, .inr ⟨h5, rfl, h7⟩⟩
    subst h7
    clear HN HY h3 h5
    go_enter Tryz.func119, Tryz.ntmps119
    go_wp2_with (go_at_call 45; first | (refine (l01In_yes _ _ _ _ (by omega)).mono ?_; rintro e w' ⟨rfl, rfl⟩) | (refine (l01In_no _ _ _ _ (by omega)).mono ?_; rintro e w' ⟨rfl, rfl⟩))
    go_ret
    exact ⟨rfl, (Below.refl _ _).alloc (Nat.le_refl _) _⟩
  · obtain rfl := HN.out fun h => h.2.2.2.2.2.elim (fun h => h5 h.1) fun h => h7 h.2.2
    have g3 : (ag == 0) = false := beq_eq_false_iff_ne.2 h7
    clear HN HY h3 h5 h7
    go_enter Tryz.func119, Tryz.ntmps119
    go_wp2_with (go_at_call 45; first | (refine (l01In_yes _ _ _ _ (by omega)).mono ?_; rintro e w' ⟨rfl, rfl⟩) | (refine (l01In_no _ _ _ _ (by omega)).mono ?_; rintro e w' ⟨rfl, rfl⟩))
    go_ret
    exact ⟨rfl, (Below.refl _ _).alloc (Nat.le_refl _) _⟩
def goalsD (t : GameD) : Int × Int × Bool := if t.st = 1 then (t.hg, t.ag, true) else if t.st = 2 then (3, 0, true) else if t.st = 3 then (0, 3, true) else (0, 0, false)
theorem goalsOf_spec (home away hg ag st : Int) (w : World) :
    Calls Tryz.prog 153 #[.agg #[.int .i64 home, .int .i64 away, .int .i64 hg, .int .i64 ag, .int .i64 st]] w fun e w' => e = .returned (.tuple #[.int .i64 (goalsD ⟨home, away, hg, ag, st⟩).1, .int .i64 (goalsD ⟨home, away, hg, ag, st⟩).2.1, .bool (goalsD ⟨home, away, hg, ag, st⟩).2.2]) ∧ Below w.heap.size w w' := by
  unfold goalsD
  simp only
  by_cases h1 : st = 1
  · subst h1
    rw [if_pos rfl]
    go_enter Tryz.func153, Tryz.ntmps153
    go_wp2
    go_quiet (fail)
    go_wp2
    go_ret3
    exact ⟨rfl, below_drewN ((Below.refl _ _).alloc (Nat.le_refl _) _) _⟩
  rw [if_neg h1]
  have g1 : (st == 1) = false := beq_eq_false_iff_ne.2 h1
  by_cases h2 : st = 2
  · subst h2
    rw [if_pos rfl]
    clear g1 h1
    go_enter Tryz.func153, Tryz.ntmps153
    go_wp2
    go_ret3
    exact ⟨rfl, (Below.refl _ _).alloc (Nat.le_refl _) _⟩
  rw [if_neg h2]
  have g2 : (st == 2) = false := beq_eq_false_iff_ne.2 h2
  by_cases h3 : st = 3
  · subst h3
    rw [if_pos rfl]
    clear g1 h1 g2 h2
    go_enter Tryz.func153, Tryz.ntmps153
    go_wp2
    go_ret3
    exact ⟨rfl, (Below.refl _ _).alloc (Nat.le_refl _) _⟩
  rw [if_neg h3]
  have g3 : (st == 3) = false := beq_eq_false_iff_ne.2 h3
  clear h1 h2 h3
  go_enter Tryz.func153, Tryz.ntmps153
  go_wp2
  go_ret3
  exact ⟨rfl, (Below.refl _ _).alloc (Nat.le_refl _) _⟩
def outcomeD (t : GameD) : Int := if (goalsD t).2.2 = true then (if (goalsD t).2.1 < (goalsD t).1 then 1 else if (goalsD t).1 = (goalsD t).2.1 then 2 else 3) else 0
theorem outcomeOf_spec (home away hg ag st : Int) (w : World) :
    Calls Tryz.prog 154 #[.agg #[.int .i64 home, .int .i64 away, .int .i64 hg, .int .i64 ag, .int .i64 st]] w fun e w' => e = .returned (.int .i64 (outcomeD ⟨home, away, hg, ag, st⟩)) ∧ Below w.heap.size w w' := by
  have C := Lib.hid (fun w1 => goalsOf_spec home away hg ag st w1)
  unfold outcomeD
  generalize goalsD ⟨home, away, hg, ag, st⟩ = q at *
  obtain ⟨a, b, ok⟩ := q
  simp only at C ⊢
  cases ok with
  | false =>
    rw [if_neg (by simp)]
    go_enter Tryz.func154, Tryz.ntmps154
    go_wp2_with fail
    refine (C.out _).mono ?_
    rintro e w1 ⟨rfl, b1⟩
    have b2 := below_prev b1
    go_wp2
    go_ret
    exact ⟨rfl, b2⟩
  | true =>
    rw [if_pos rfl]
    by_cases h1 : b < a
    · rw [if_pos h1]
      have g1 : decide (b < a) = true := decide_eq_true h1
      go_enter Tryz.func154, Tryz.ntmps154
      go_wp2_with fail
      refine (C.out _).mono ?_
      rintro e w1 ⟨rfl, b1⟩
      have b2 := below_prev b1
      go_wp2
      go_ret
      exact ⟨rfl, b2⟩
    rw [if_neg h1]
    have g1 : decide (b < a) = false := decide_eq_false h1
    by_cases h2 : a = b
    · rw [if_pos h2]
      have g2 : (a == b) = true := by simpa using h2
      have HH := Lib.hid h2
      clear h2 h1
      go_enter Tryz.func154, Tryz.ntmps154
      go_wp2_with fail
      refine (C.out _).mono ?_
      rintro e w1 ⟨rfl, b1⟩
      have b2 := below_prev b1
      go_wp2
      go_ret
      exact ⟨rfl, b2⟩
    · rw [if_neg h2]
      have g2 : (a == b) = false := beq_eq_false_iff_ne.2 h2
      go_enter Tryz.func154, Tryz.ntmps154
      go_wp2_with fail
      refine (C.out _).mono ?_
      rintro e w1 ⟨rfl, b1⟩
      have b2 := below_prev b1
      go_wp2
      go_ret
      exact ⟨rfl, b2⟩
def playD (t : GameD) (o : Int) : GameD := if 1 ≤ o ∧ o ≤ 3 then ⟨t.home, t.away, if o = 1 then 1 else 0, if o = 3 then 1 else 0, 1⟩ else t
end Go.Proofs.YteciobkjfmddcaaGreat
set_option linter.unusedVariables false
namespace Go.Proofs.YteciobkjfmddcaaGreat
open Go.RowKit

def atG (g : Nat → GameD) (h a : Int) (i : Nat) : Bool := (g i).home == h && (g i).away == a
theorem game_cells {w : World} {b o : Nat} {x : GameD} (h : CellsAt w b o x.cells) : w.cell? ⟨b, o, none⟩ = some (.int .i64 x.home) ∧ w.cell? ⟨b, o + 1, none⟩ = some (.int .i64 x.away) ∧ w.cell? ⟨b, o + 2, none⟩ = some (.int .i64 x.hg) ∧
    w.cell? ⟨b, o + 3, none⟩ = some (.int .i64 x.ag) ∧ w.cell? ⟨b, o + 4, none⟩ = some (.int .i64 x.st) := ⟨h.2 0 _ rfl, h.2 1 _ rfl, h.2 2 _ rfl, h.2 3 _ rfl, h.2 4 _ rfl⟩
theorem gameOf_spec (v : Value) (n : Nat) (g : Nat → GameD) (h a : Int) (w : World) (hv : GameRow w v n g) :
    Calls Tryz.prog 120 #[v, .int .i64 h, .int .i64 a] w fun e w' => e = .returned (.int .i64 (firstI (atG g h a) n 0)) ∧ Below w.heap.size w w' := by
  obtain ⟨aa, cap, rfl, hn, hc⟩ := hv.form
  have HV := Lib.hid hc
  clear hc hv
  generalize hr : firstI (atG g h a) n 0 = R
  have HR := Lib.hid hr
  clear hr
  go_enter Tryz.func120, Tryz.ntmps120
  go_wp2
  go_loopw [11] (fun i wr => ∃ k : Nat, k ≤ n ∧ i = .int .i64 k ∧ Hid (firstI (atG g h a) (n - k) k = R) ∧ Below w.heap.size w wr) (fun i _ => n - (RowKit.intOf i).toNat)
  case atStart => exact ⟨0, Nat.zero_le _, rfl, HR.out, Below.refl _ _⟩
  case round =>
    obtain ⟨k, hk, rfl, hp, hb⟩ := hrel
    by_cases hlt : k < n
    · obtain ⟨b, off, rfl, hcap, hc⟩ := HV.out (by omega)
      have hstep := firstI_step (p := atG g h a) hlt
      rw [hp.out] at hstep
      have HY := Lib.hid (fun (e : atG g h a k = true) => hstep.trans (if_pos e))
      have HN := Lib.hid (fun (e : atG g h a k = false) => hstep.trans (if_neg (by rw [e]; simp)))
      have hq := (hc k hlt).belowB hb (hc k hlt).1
      clear hstep
      generalize hx : g k = x at *
      have Hx := Lib.hid hx
      obtain ⟨c0, c1, c2, c3, c4⟩ := game_cells hq
      have hsz := hb.size
      have hb2 := hb.alloc hsz (.cells #[.int .i64 x.home, .int .i64 x.away, .int .i64 x.hg, .int .i64 x.ag, .int .i64 x.st] 127)
      clear hc HV hp HR hq hx
      by_cases h1 : x.home = h
      · have g1 : (x.home == h) = true := by simpa using h1
        by_cases h2 : x.away = a
        · have g2 : (x.away == a) = true := by simpa using h2
          obtain rfl := HY.out (by unfold atG; rw [Hx.out, g1, g2]; rfl)
          clear HY HN
          have H1 := Lib.hid h1
          have H2 := Lib.hid h2
          clear h1 h2
          go_wp2
          go_ret
          exact ⟨rfl, hb2⟩
        · have g2 : (x.away == a) = false := beq_eq_false_iff_ne.2 h2
          have HS := Lib.hid (HN.out (by unfold atG; rw [Hx.out, g1, g2]; rfl)).symm
          have H1 := Lib.hid h1
          clear HY HN h1 h2
          go_wp2
          go_roundw
          case rel => exact ⟨k + 1, by omega, by go_num, HS.out, hb2⟩
          case measure => simp [RowKit.intOf]; omega
      · have g1 : (x.home == h) = false := beq_eq_false_iff_ne.2 h1
        have HS := Lib.hid (HN.out (by unfold atG; rw [Hx.out, g1]; rfl)).symm
        clear HY HN h1
        go_wp2
        go_roundw
        case rel => exact ⟨k + 1, by omega, by go_num, HS.out, hb2⟩
        case measure => simp [RowKit.intOf]; omega
    · obtain rfl : k = n := by omega
      have hR : R = -1 := by rw [← hp.out, Nat.sub_self]; rfl
      subst hR
      clear hp HR
      go_wp2
      go_ret
      exact ⟨rfl, hb⟩
def betweenG (a b : Int) (t : GameD) : Bool := (t.home == a && t.away == b) || (t.home == b && t.away == a)
end Go.Proofs.YteciobkjfmddcaaGreat
set_option linter.unusedVariables false
namespace Go.Proofs.YteciobkjfmddcaaGreat
open Go.RowKit

def seasonP (n : Int) (m : Nat) (g : Nat → GameD) : Prop := m ≤ 60 ∧ ∀ i, i < m → gameP n (g i) ∧ firstI (atG g (g i).home (g i).away) m 0 = (i : Int)
theorem seasonOk_spec (n : Int) (v : Value) (m : Nat) (g : Nat → GameD) (R : Bool) (w : World) (hR : R = true ↔ seasonP n m g) (hv : GameRow w v m g) :
    Calls Tryz.prog 90 #[.int .i64 n, v] w fun e w' => e = .returned (.bool R) ∧ Below w.heap.size w w' := by
  obtain ⟨aa, cap, rfl, hn, hc⟩ := hv.form
  have HV := Lib.hid hc
  have HG := Lib.hid hv
  have HR := Lib.hid hR
  clear hc hv hR
  by_cases h60 : 60 < m
  · have g0 : decide (60 < (m : Int)) = true := decide_eq_true (by omega)
    have g0' : decide (60 < m) = true := decide_eq_true h60
    have hf : R = false := by
      cases R with
      | false => rfl
      | true => have := (HR.out.1 rfl).1; omega
    subst hf
    clear HR
    go_enter Tryz.func90, Tryz.ntmps90
    go_wp2
    go_ret
    exact ⟨rfl, Below.refl _ _⟩
  have g0 : decide (60 < (m : Int)) = false := decide_eq_false (by omega)
  have g0' : decide (60 < m) = false := decide_eq_false h60
  have HNO : Hid (∀ k, k < m → ¬ (gameP n (g k) ∧ firstI (atG g (g k).home (g k).away) m 0 = (k : Int)) → R = false) := fun k hk h => by
    cases R with
    | false => rfl
    | true => exact absurd ((HR.out.1 rfl).2 k hk) h
  have HYES : Hid ((∀ i, i < m → gameP n (g i) ∧ firstI (atG g (g i).home (g i).away) m 0 = (i : Int)) → R = true) := fun h => HR.out.2 ⟨by omega, h⟩
  clear HR
  go_enter Tryz.func90, Tryz.ntmps90
  go_wp2
  go_loopw [12] (fun i wr => ∃ k : Nat, k ≤ m ∧ i = .int .i64 k ∧ Hid (∀ i, i < k → gameP n (g i) ∧ firstI (atG g (g i).home (g i).away) m 0 = (i : Int)) ∧ Below w.heap.size w wr) (fun i _ => m - (RowKit.intOf i).toNat)
  case atStart => exact ⟨0, Nat.zero_le _, rfl, fun i hi => absurd hi (by omega), Below.refl _ _⟩
  case round =>
    obtain ⟨k, hk, rfl, hok, hb⟩ := hrel
    by_cases hlt : k < m
    · obtain ⟨b, off, rfl, hcap, hc⟩ := HV.out (by omega)
      have hq := (hc k hlt).belowB hb (hc k hlt).1
      have HS : Hid ((gameP n (g k) ∧ firstI (atG g (g k).home (g k).away) m 0 = (k : Int)) → ∀ i, i < k + 1 → gameP n (g i) ∧ firstI (atG g (g i).home (g i).away) m 0 = (i : Int)) := fun h i hi => by
        by_cases hik : i = k
        · subst hik; exact h
        · exact hok.out i (by omega)
      have HN := Lib.hid (HNO.out k hlt)
      have CG := Lib.hid (fun w1 h1 => gameOf_spec (.slice (some ⟨b, off, none⟩) m cap) m g (g k).home (g k).away w1 h1)
      generalize firstI (atG g (g k).home (g k).away) m 0 = fi at *
      generalize g k = x at *
      obtain ⟨c0, c1, c2, c3, c4⟩ := game_cells hq
      have hsz := hb.size
      clear hc HV hq hok HNO HYES
      obtain ⟨r, hr⟩ : ∃ r : Bool, r = true ↔ gameP n x := by
        by_cases h : gameP n x
        · exact ⟨true, fun _ => h, fun _ => rfl⟩
        · exact ⟨false, (fun e => by cases e), fun e => absurd e h⟩
      have C := Lib.hid (fun w1 => gameOk_spec n x.home x.away x.hg x.ag x.st r w1 hr)
      have HR2 := Lib.hid hr
      clear hr
      cases r with
      | false =>
        have hf : R = false := HN.out fun h => by have := HR2.out.2 h.1; cases this
        subst hf
        clear HN HS HR2
        go_wp2_with fail
        refine (C.out _).mono ?_
        rintro e w2 ⟨rfl, b2⟩
        have hb2 := hb.trans ((below_prev b2).mono hsz)
        go_wp2
        go_ret
        exact ⟨rfl, hb2⟩
      | true =>
        go_wp2_with fail
        refine (C.out _).mono ?_
        rintro e w2 ⟨rfl, b2⟩
        have bx := BoxN.made b2 (B := wr.heap.size) rfl
        have d0 := bx.2 0 _ rfl
        have d1 := bx.2 1 _ rfl
        have hb2 := hb.trans ((below_prev b2).mono hsz)
        have hG2 := Lib.hid (HG.out.below hb2 (Nat.le_refl _))
        clear b2 bx c0 c1 c2 c3 c4 C
        go_wp2_with fail
        refine (CG.out _ hG2.out).mono ?_
        rintro e w3 ⟨rfl, b3⟩
        have hb3 := hb2.trans (b3.mono hb2.size)
        clear b3 CG hG2 d0 d1
        by_cases hfi : fi = (k : Int)
        · have HX := Lib.hid (HS.out ⟨HR2.out.1 (by simp), hfi⟩)
          subst hfi
          clear HN HS HR2
          go_wp2
          go_roundw
          case rel => exact ⟨k + 1, by omega, by go_num, HX.out, hb3⟩
          case measure => simp [RowKit.intOf]; omega
        · have hf : R = false := HN.out fun h => hfi h.2
          subst hf
          have g1 : (fi != (k : Int)) = true := bne_iff_ne.2 hfi
          have HF := Lib.hid hfi
          clear HN HS HR2 hfi
          go_wp2
          go_ret
          exact ⟨rfl, hb3⟩
    · obtain rfl : k = m := by omega
      obtain rfl := HYES.out hok.out
      clear HNO HYES hok
      go_wp2
      go_ret
      exact ⟨rfl, hb⟩
end Go.Proofs.YteciobkjfmddcaaGreat
set_option linter.unusedVariables false
namespace Go.Proofs.YteciobkjfmddcaaGreat
open Go.RowKit

def addW (a b : RowD) : RowD := ⟨wrap64 (a.played + b.played), wrap64 (a.wins + b.wins), wrap64 (a.draws + b.draws), wrap64 (a.losses + b.losses), wrap64 (a.scored + b.scored), wrap64 (a.against + b.against), wrap64 (a.points + b.points)⟩
def zeroR : RowD := ⟨0, 0, 0, 0, 0, 0, 0⟩
theorem row_cells {w : World} {b o : Nat} {x : RowD} (h : CellsAt w b o x.cells) : w.cell? ⟨b, o, none⟩ = some (.int .i64 x.played) ∧ w.cell? ⟨b, o + 1, none⟩ = some (.int .i64 x.wins) ∧ w.cell? ⟨b, o + 2, none⟩ = some (.int .i64 x.draws) ∧ w.cell? ⟨b, o + 3, none⟩ = some (.int .i64 x.losses) ∧ w.cell? ⟨b, o + 4, none⟩ = some (.int .i64 x.scored) ∧ w.cell? ⟨b, o + 5, none⟩ = some (.int .i64 x.against) ∧ w.cell? ⟨b, o + 6, none⟩ = some (.int .i64 x.points) := ⟨h.2 0 _ rfl, h.2 1 _ rfl, h.2 2 _ rfl, h.2 3 _ rfl, h.2 4 _ rfl, h.2 5 _ rfl, h.2 6 _ rfl⟩

theorem cell_at_alloc {w : World} {b i : Nat} {v : Value} (h : w.cell? ⟨b, i, none⟩ = some v) (o : Obj) : (w.alloc o).cell? ⟨b, i, none⟩ = some v := by
  have hb := World.block_lt_of_cell? w _ h
  exact (((Below.refl w.heap.size w).alloc (Nat.le_refl _) o).cell (p := ⟨b, i, none⟩) hb).trans h

theorem addRows_spec (a b : RowD) (w : World) :
    Calls Tryz.prog 155 #[.agg #[.int .i64 a.played, .int .i64 a.wins, .int .i64 a.draws, .int .i64 a.losses, .int .i64 a.scored, .int .i64 a.against, .int .i64 a.points], .agg #[.int .i64 b.played, .int .i64 b.wins, .int .i64 b.draws, .int .i64 b.losses, .int .i64 b.scored, .int .i64 b.against, .int .i64 b.points]] w fun e w' => e = .returned (addW a b).val ∧ Below w.heap.size w w' := by
  unfold addW RowD.val
  go_enter Tryz.func155, Tryz.ntmps155
  go_wp2
  refine bodyPost_ret (by simp [results, Tryz.results155, go_sem]) rfl ⟨rfl, ?_⟩
  repeat (first | exact Below.refl _ _ | refine Below.setCell ?_ (by simp <;> omega) _ | refine Below.alloc ?_ (by simp <;> omega) _)
theorem differenceOf_spec (a : RowD) (w : World) :
    Calls Tryz.prog 122 #[.agg #[.int .i64 a.played, .int .i64 a.wins, .int .i64 a.draws, .int .i64 a.losses, .int .i64 a.scored, .int .i64 a.against, .int .i64 a.points]] w fun e w' => e = .returned (.int .i64 (wrap64 (a.scored - a.against))) ∧ Below w.heap.size w w' := by
  go_enter Tryz.func122, Tryz.ntmps122
  go_wp2
  go_ret
  exact ⟨rfl, (Below.refl _ _).alloc (Nat.le_refl _) _⟩
def playedN (g : Nat → RowD) : Nat → Int
  | 0 => 0
  | k + 1 => wrap64 (playedN g k + (g k).played)
def leadP (g : Nat → RowD) : Nat → Int
  | 0 => -1
  | k + 1 => if leadP g k < 0 then (k : Int) else if (g (leadP g k).toNat).points < (g k).points then (k : Int) else leadP g k
theorem leadP_lt (g : Nat → RowD) : ∀ k, leadP g k = -1 ∨ (0 ≤ leadP g k ∧ leadP g k < k)
  | 0 => .inl rfl
  | k + 1 => by
    unfold leadP
    have := leadP_lt g k
    split
    · right; omega
    · split <;> (right; omega)
end Go.Proofs.YteciobkjfmddcaaGreat
set_option linter.unusedVariables false
namespace Go.Proofs.YteciobkjfmddcaaGreat
open Go.RowKit

def BoxF (w : World) (B : Nat) (cs : List Value) : Prop := B < w.heap.size ∧ ∀ j v, cs[j]? = some v → w.cell? ⟨B, j, none⟩ = some v ∧ w.frozen? ⟨B, j, none⟩ = false
theorem BoxF.made {u w2 : World} {cs : Array Value} {t : TypeId} {B : Nat} (h : Below (u.alloc (.cells cs t)).heap.size (u.alloc (.cells cs t)) w2) (hB : u.heap.size = B) : BoxF w2 B cs.toList :=
  ⟨(BoxN.made h hB).1, fun j v hv => ⟨(BoxN.made h hB).2 j v hv, BoxN.free h hB j⟩⟩
theorem BoxF.box {w : World} {B : Nat} {cs : List Value} (h : BoxF w B cs) : BoxN w B cs := ⟨h.1, fun j v hv => (h.2 j v hv).1⟩
theorem BoxF.below {w w' : World} {B : Nat} {cs : List Value} (h : BoxF w B cs) (hb : Below w.heap.size w w') : BoxF w' B cs :=
  ⟨Nat.lt_of_lt_of_le h.1 hb.size, fun j v hv => ⟨(hb.cell (p := ⟨B, j, none⟩) h.1).trans (h.2 j v hv).1, (hb.frozen (p := ⟨B, j, none⟩) h.1).trans (h.2 j v hv).2⟩⟩
theorem BoxF.set {w : World} {B : Nat} {cs : List Value} (h : BoxF w B cs) (j : Nat) (u : Value) (hj : j < cs.length) : BoxF (w.setCell ⟨B, j, none⟩ u) B (cs.set j u) := by
  refine ⟨by simpa [World.setCell] using h.1, fun i v hv => ?_⟩
  have hf : ∀ (i : Nat) (v0 : Value), cs[i]? = some v0 → (w.setCell ⟨B, j, none⟩ u).frozen? ⟨B, i, none⟩ = false := fun i v0 h0 => (World.frozen?_setCell _ _ _ _).trans (h.2 i v0 h0).2
  by_cases e : i = j
  · subst e
    obtain ⟨v0, h0⟩ : ∃ v0, cs[i]? = some v0 := ⟨_, List.getElem?_eq_getElem hj⟩
    rw [List.getElem?_set_self hj] at hv
    cases hv
    refine ⟨?_, hf i v0 h0⟩
    rw [World.cell?_setCell_same' _ _ _ (by rw [(h.2 i v0 h0).1]; rfl)]
  · rw [List.getElem?_set_ne (Ne.symm e)] at hv
    refine ⟨?_, hf i v hv⟩
    rw [World.cell?_setCell_other _ _ _ _ (by intro e2; simp only [Addr.mk.injEq] at e2; omega)]
    exact (h.2 i v hv).1
theorem BoxF.other {w : World} {B D : Nat} {cs : List Value} (h : BoxF w B cs) (j : Nat) (u : Value) (hD : B ≠ D) : BoxF (w.setCell ⟨D, j, none⟩ u) B cs := by
  refine ⟨by simpa [World.setCell] using h.1, fun i v hv => ⟨?_, (World.frozen?_setCell _ _ _ _).trans (h.2 i v hv).2⟩⟩
  rw [World.cell?_setCell_other _ _ _ _ (by intro e2; simp only [Addr.mk.injEq] at e2; omega)]
  exact (h.2 i v hv).1
theorem BoxN.elsewhere {w : World} {B D : Nat} {cs : List Value} (h : BoxN w B cs) (j : Nat) (u : Value) (hD : B ≠ D) : BoxN (w.setCell ⟨D, j, none⟩ u) B cs := by
  refine ⟨by simpa [World.setCell] using h.1, fun i v hv => ?_⟩
  rw [World.cell?_setCell_other _ _ _ _ (by intro e2; simp only [Addr.mk.injEq] at e2; omega)]
  exact h.2 i v hv
end Go.Proofs.YteciobkjfmddcaaGreat
set_option linter.unusedVariables false
namespace Go.Proofs.YteciobkjfmddcaaGreat
open Go.RowKit
theorem boolT {R : Bool} {p : Prop} (h : R = true ↔ p) (hp : p) : R = true := h.2 hp
theorem boolF {R : Bool} {p : Prop} (h : R = true ↔ p) (hp : ¬ p) : R = false := by
  cases R with
  | false => rfl
  | true => exact absurd (h.1 rfl) hp

def sumR (g : Nat → RowD) : Nat → RowD
  | 0 => zeroR
  | k + 1 => addW (sumR g k) (g k)
def balR (x : RowD) : Prop := wrap64 (wrap64 (x.wins + x.draws) + x.losses) = x.played
def balP (n : Nat) (g : Nat → RowD) : Prop := (∀ i, i < n → balR (g i)) ∧ (sumR g n).wins = (sumR g n).losses ∧ (sumR g n).draws.tmod 2 = 0 ∧ (sumR g n).scored = (sumR g n).against
theorem BoxF.row7 {w : World} {B : Nat} {x y : RowD} (h : BoxF w B x.cells) :
    BoxF (((((((w.setCell ⟨B, 0, none⟩ (Value.int .i64 y.played)).setCell ⟨B, 1, none⟩ (Value.int .i64 y.wins)).setCell ⟨B, 2, none⟩ (Value.int .i64 y.draws)).setCell ⟨B, 3, none⟩ (Value.int .i64 y.losses)).setCell ⟨B, 4, none⟩ (Value.int .i64 y.scored)).setCell ⟨B, 5, none⟩ (Value.int .i64 y.against)).setCell ⟨B, 6, none⟩ (Value.int .i64 y.points)) B y.cells := by
  have h0 := h.set 0 (Value.int .i64 y.played) (by simp [RowD.cells])
  have h1 := h0.set 1 (Value.int .i64 y.wins) (by simp [RowD.cells])
  have h2 := h1.set 2 (Value.int .i64 y.draws) (by simp [RowD.cells])
  have h3 := h2.set 3 (Value.int .i64 y.losses) (by simp [RowD.cells])
  have h4 := h3.set 4 (Value.int .i64 y.scored) (by simp [RowD.cells])
  have h5 := h4.set 5 (Value.int .i64 y.against) (by simp [RowD.cells])
  have h6 := h5.set 6 (Value.int .i64 y.points) (by simp [RowD.cells])
  exact h6
theorem boxF_row {w : World} {B : Nat} {x : RowD} (h : BoxF w B x.cells) : (w.cell? ⟨B, 0, none⟩ = some (.int .i64 x.played) ∧ w.frozen? ⟨B, 0, none⟩ = false) ∧ (w.cell? ⟨B, 1, none⟩ = some (.int .i64 x.wins) ∧ w.frozen? ⟨B, 1, none⟩ = false) ∧ (w.cell? ⟨B, 2, none⟩ = some (.int .i64 x.draws) ∧ w.frozen? ⟨B, 2, none⟩ = false) ∧ (w.cell? ⟨B, 3, none⟩ = some (.int .i64 x.losses) ∧ w.frozen? ⟨B, 3, none⟩ = false) ∧ (w.cell? ⟨B, 4, none⟩ = some (.int .i64 x.scored) ∧ w.frozen? ⟨B, 4, none⟩ = false) ∧ (w.cell? ⟨B, 5, none⟩ = some (.int .i64 x.against) ∧ w.frozen? ⟨B, 5, none⟩ = false) ∧ (w.cell? ⟨B, 6, none⟩ = some (.int .i64 x.points) ∧ w.frozen? ⟨B, 6, none⟩ = false) := ⟨h.2 0 _ rfl, h.2 1 _ rfl, h.2 2 _ rfl, h.2 3 _ rfl, h.2 4 _ rfl, h.2 5 _ rfl, h.2 6 _ rfl⟩

theorem below_row7 {a w : World} {B0 B : Nat} {y : RowD} (h : Below B0 a w) (hB : B0 ≤ B) :
    Below B0 a (((((((w.setCell ⟨B, 0, none⟩ (Value.int .i64 y.played)).setCell ⟨B, 1, none⟩ (Value.int .i64 y.wins)).setCell ⟨B, 2, none⟩ (Value.int .i64 y.draws)).setCell ⟨B, 3, none⟩ (Value.int .i64 y.losses)).setCell ⟨B, 4, none⟩ (Value.int .i64 y.scored)).setCell ⟨B, 5, none⟩ (Value.int .i64 y.against)).setCell ⟨B, 6, none⟩ (Value.int .i64 y.points)) := by
  exact (Below.setCell (Below.setCell (Below.setCell (Below.setCell (Below.setCell (Below.setCell (Below.setCell h (p := ⟨B, 0, none⟩) hB (Value.int .i64 y.played)) (p := ⟨B, 1, none⟩) hB (Value.int .i64 y.wins)) (p := ⟨B, 2, none⟩) hB (Value.int .i64 y.draws)) (p := ⟨B, 3, none⟩) hB (Value.int .i64 y.losses)) (p := ⟨B, 4, none⟩) hB (Value.int .i64 y.scored)) (p := ⟨B, 5, none⟩) hB (Value.int .i64 y.against)) (p := ⟨B, 6, none⟩) hB (Value.int .i64 y.points))
end Go.Proofs.YteciobkjfmddcaaGreat
