/-
  Packed: TablesImpl, FieldImpl, Maps.
-/
import Derived.Maps.OwnOps
import Derived.Maps.OwnSet
import Derived.Maps.Views
import Derived.Maps.RangeWalk
import Derived.Test.YteciobkjfmddcaaGreatDoorQ1
import Derived.Test.YteciobkjfmddcaaGreatDoorQ3
import Derived.Test.YteciobkjfmddcaaGreatDoorQ8
import Derived.Test.YteciobkjfmddcaaGreatDoorQ9
set_option linter.unusedVariables false
namespace Go.Proofs.YteciobkjfmddcaaGreatDoor
open Go.RowKit

theorem allCl_impl (x : GameD) (w : World) :
    Calls Tryz.prog 69 #[.agg #[.int .i64 x.home, .int .i64 x.away, .int .i64 x.hg, .int .i64 x.ag, .int .i64 x.st]] w fun e w' => e = .returned (.bool true) ∧ Below w.heap.size w w' := by
  go_enter Tryz.func69, Tryz.ntmps69
  go_wp2
  go_ret
  exact ⟨rfl, (Below.refl _ _).alloc (Nat.le_refl _) _⟩
theorem contains_any (v : Value) (n : Nat) (g : Nat → Int) (x : Int) (w : World) (h : IntRow w v n g) :
    Calls Tryz.prog 20 #[v, .int .i64 x] w fun e w' => e = .returned (.bool (hasB g n x)) ∧ w = w' := slicesContains_int v n g x (hasB g n x) w hasB_iff h
theorem amongCl_impl (x : GameD) (GB : Nat) (gv : Value) (ng : Nat) (gg : Nat → Int) (w : World) (hB : BoxN w GB [gv]) (hg : IntRow w gv ng gg) :
    Calls Tryz.prog 91 #[.agg #[.int .i64 x.home, .int .i64 x.away, .int .i64 x.hg, .int .i64 x.ag, .int .i64 x.st], .pointer (some ⟨GB, 0, none⟩)] w fun e w' => e = .returned (.bool (hasB gg ng x.home && hasB gg ng x.away)) ∧ Below w.heap.size w w' := by
  obtain ⟨ga, gc, rfl, _, _⟩ := hg.form
  have hlt := hB.1
  have c0 := hB.2 0 _ rfl
  have hb0 : Below w.heap.size w (w.alloc (.cells #[.int .i64 x.home, .int .i64 x.away, .int .i64 x.hg, .int .i64 x.ag, .int .i64 x.st] 93)) := (Below.refl _ _).alloc (Nat.le_refl _) _
  have hg1 := hg.below hb0 (Nat.le_refl _)
  have C1 := Lib.hid (contains_any _ ng gg x.home _ hg1)
  have C2 := Lib.hid (contains_any _ ng gg x.away _ hg1)
  have HB0 := Lib.hid hb0
  clear hB hg hg1 hb0
  generalize hasB gg ng x.home = bp at *
  generalize hasB gg ng x.away = bq at *
  cases bp with
  | false =>
    go_enter Tryz.func91, Tryz.ntmps91
    go_wp2_with fail
    refine C1.out.mono ?_
    rintro e w2 ⟨rfl, rfl⟩
    clear C1 C2
    go_wp2
    go_ret
    exact ⟨rfl, HB0.out⟩
  | true =>
    go_enter Tryz.func91, Tryz.ntmps91
    go_wp2_with fail
    refine C1.out.mono ?_
    rintro e w2 ⟨rfl, rfl⟩
    go_wp2_with fail
    refine C2.out.mono ?_
    rintro e w2 ⟨rfl, rfl⟩
    clear C1 C2
    go_wp2
    go_ret
    exact ⟨rfl, HB0.out⟩
theorem side_home (win draw loss : Int) (x : GameD) (h : (goalsD x).2.2 = true) : homeR win draw loss x = sideR win draw loss (goalsD x).1 (goalsD x).2.1 ∧ awayR win draw loss x = sideR win draw loss (goalsD x).2.1 (goalsD x).1 := by
  unfold homeR awayR sideR outcomeD
  rw [if_pos h]
  constructor
  · by_cases h1 : (goalsD x).2.1 < (goalsD x).1
    · simp [h1]
    · by_cases h2 : (goalsD x).1 = (goalsD x).2.1
      · simp [h2]
      · have h3 : (goalsD x).1 < (goalsD x).2.1 := by omega
        simp [h1, h2, h3]
  · by_cases h1 : (goalsD x).2.1 < (goalsD x).1
    · have h2 : ¬ (goalsD x).1 < (goalsD x).2.1 := by omega
      simp [h1, h2]
    · by_cases h2 : (goalsD x).1 = (goalsD x).2.1
      · simp [h2]
      · have h3 : (goalsD x).1 < (goalsD x).2.1 := by omega
        simp [h1, h2, h3]
theorem owns_team {w : World} {base gg n cap t : Nat} {xs : List Value} {y : RowD} (ho : w.ownsRow base 128 12 (.slice (some ⟨gg, 0, none⟩) n cap) n xs) :
    World.ownsRow (set7 w gg (t * 12) y) base 128 12 (.slice (some ⟨gg, 0, none⟩) n cap) n (setsFrom xs (t * 12) y.cells) := (((((((ho.stored (t * 12) (Value.int .i64 y.played)).1.stored (t * 12 + 1) (Value.int .i64 y.wins)).1.stored (t * 12 + 2) (Value.int .i64 y.draws)).1.stored (t * 12 + 3) (Value.int .i64 y.losses)).1.stored (t * 12 + 4) (Value.int .i64 y.scored)).1.stored (t * 12 + 5) (Value.int .i64 y.against)).1.stored (t * 12 + 6) (Value.int .i64 y.points)).1
theorem cells_team {n t : Nat} {xs : List Value} {r : Nat → RowD} {y : RowD} {win draw loss : Int} {lad : Value} {agn : Bool} (h : RecCells 12 n xs fun i => teamCs (r i) win draw loss lad agn) (hl : xs.length = n * 12) (ht : t < n) :
    RecCells 12 n (setsFrom xs (t * 12) y.cells) fun i => teamCs (putR r t y i) win draw loss lad agn := by
  intro i hi j u hu
  have hj : j < 12 := by have := (List.getElem?_eq_some_iff.1 hu).1; simpa [teamCs, RowD.cells] using this
  have h7 : y.cells.length = 7 := rfl
  have h7x : ∀ x : RowD, x.cells.length = 7 := fun _ => rfl
  by_cases e : i = t
  · subst e
    unfold putR at hu
    simp only [if_pos trivial] at hu
    by_cases hj7 : j < 7
    · refine setsFrom_in _ _ _ j u (by omega) ?_
      unfold teamCs at hu
      rwa [List.getElem?_append_left (by omega)] at hu
    · rw [setsFrom_out _ _ _ _ (by omega)]
      refine h i hi j u ?_
      unfold teamCs at hu ⊢
      rw [List.getElem?_append_right (by have := h7x y; omega)] at hu
      rw [List.getElem?_append_right (by have := h7x (r i); omega)]
      exact hu
  · rw [setsFrom_out _ _ _ _ (by omega)]
    refine h i hi j u ?_
    unfold putR at hu
    simpa only [if_neg e] using hu
theorem team_at {w : World} {base gg n cap t : Nat} {xs : List Value} {r : Nat → RowD} {win draw loss : Int} {lad : Value} {agn : Bool} (ho : w.ownsRow base 128 12 (.slice (some ⟨gg, 0, none⟩) n cap) n xs) (hc : RecCells 12 n xs fun i => teamCs (r i) win draw loss lad agn) (ht : t < n) :
    CellsAt w gg (t * 12) (teamCs (r t) win draw loss lad agn) := by
  have hlen := ho.1
  refine ⟨(ho.lt gg rfl).2, fun j u hu => ?_⟩
  have hj : j < 12 := by have := (List.getElem?_eq_some_iff.1 hu).1; simpa [teamCs, RowD.cells] using this
  rw [ho.cellAt (t * 12 + j) (by omega)]
  exact hc t ht j u hu
theorem box_team {w : World} {B gg o : Nat} {cs : List Value} {y : RowD} (h : BoxN w B cs) (hB : B ≠ gg) : BoxN (set7 w gg o y) B cs :=
  BoxN.elsewhere (BoxN.elsewhere (BoxN.elsewhere (BoxN.elsewhere (BoxN.elsewhere (BoxN.elsewhere (BoxN.elsewhere h (D := gg) _ _ hB) (D := gg) _ _ hB) (D := gg) _ _ hB) (D := gg) _ _ hB) (D := gg) _ _ hB) (D := gg) _ _ hB) (D := gg) _ _ hB
theorem team_ones {x : RowD} {win draw loss : Int} {la : Option Addr} {nl lc : Nat} {agn : Bool} : ∀ v ∈ teamCs x win draw loss (.slice la nl lc) agn, v.oneCell' = true := by
  intro v hv
  simp [teamCs, RowD.cells] at hv
  rcases hv with rfl | rfl | rfl | rfl | rfl | rfl | rfl | rfl | rfl | rfl | rfl | rfl <;> rfl
theorem cells_add1 {n : Nat} {xs : List Value} {win draw loss : Int} {r : Nat → RowD} {x : GameD} {lad : Value} {agn : Bool} (h : RecCells 12 n xs fun i => teamCs (r i) win draw loss lad agn) : RecCells 12 n xs fun i => teamCs (r i) win draw loss lad agn := h

set_option maxRecDepth 100000 in
set_option maxHeartbeats 4000000 in
theorem whereAll_impl (win draw loss : Int) (lad : Value) (nl : Nat) (gl : Nat → Int) (agn : Bool) (n : Int) (v : Value) (m : Nat) (g : Nat → GameD) (R : Bool) (w : World) (hR : R = true ↔ tabP win draw loss nl gl n m g)
    (hlad : IntRow w lad nl gl) (hv : GameRow w v m g) :
    Calls Tryz.prog 68 #[.agg #[.int .i64 win, .int .i64 draw, .int .i64 loss, lad, .bool agn], .int .i64 n, v, .func (.func 69) #[] #[]] w (RecMade 7 115 w (if R = true then n.toNat else 0) (fun i => (tabR win draw loss (selG true (fun _ => 0) 0) g m i).cells)) := by
  obtain ⟨r1, hr1⟩ := boolEx (rulesP win draw loss nl gl)
  obtain ⟨r3, hr3⟩ := boolEx (seasonP n m g)
  have C1 := Lib.hid (fun w1 h1 => rulesOk_impl win draw loss agn r1 lad nl gl w1 hr1 h1)
  have C3 := Lib.hid (fun w1 h1 => seasonOk_impl n v m g r3 w1 hr3 h1)
  have hall : R = true ↔ (r1 = true ∧ (2 ≤ n ∧ n ≤ 8) ∧ r3 = true) := by rw [hR, hr1, hr3]; exact Iff.rfl
  have HN := Lib.hid (boolF hall)
  have HY := Lib.hid (boolT hall)
  have HSea : Hid (r3 = true → ∀ i, i < m → gameP n (g i)) := fun h i hi => ((hr3.1 h).2 i hi).1
  have HV := Lib.hid hv
  obtain ⟨la, lc, rfl, _, _⟩ := hlad.form
  have HL := Lib.hid (hlad.below ((Below.refl w.heap.size w).alloc (Nat.le_refl _) (.cells #[.int .i64 win, .int .i64 draw, .int .i64 loss, .slice la nl lc, .bool agn] 26)) (Nat.le_refl _))
  clear hR hr1 hr3 hall hlad hv
  cases r1 with
  | false =>
    obtain rfl := HN.out fun h => by have := h.1; cases this
    clear HN HY HSea
    go_enter Tryz.func68, Tryz.ntmps68
    go_wp2_with fail
    refine (C1.out _ HL.out).mono ?_
    rintro e w1 ⟨rfl, b1⟩
    have HB := Lib.hid (below_prev b1)
    clear b1
    go_wp2
    go_ret
    exact made_none HB.out
  | true =>
  by_cases h2 : 2 ≤ n ∧ n ≤ 8
  case neg =>
    obtain rfl := HN.out fun h => h2 h.2.1
    clear HN HY HSea
    by_cases h3 : n < 2
    · have g1 : decide (n < 2) = true := decide_eq_true h3
      clear h2
      go_enter Tryz.func68, Tryz.ntmps68
      go_wp2_with fail
      refine (C1.out _ HL.out).mono ?_
      rintro e w1 ⟨rfl, b1⟩
      have HB := Lib.hid (below_prev b1)
      clear b1
      go_wp2
      go_ret
      exact made_none HB.out
    · have g1 : decide (n < 2) = false := decide_eq_false h3
      have g2 : decide (8 < n) = true := decide_eq_true (by omega)
      clear h2
      go_enter Tryz.func68, Tryz.ntmps68
      go_wp2_with fail
      refine (C1.out _ HL.out).mono ?_
      rintro e w1 ⟨rfl, b1⟩
      have HB := Lib.hid (below_prev b1)
      clear b1
      go_wp2
      go_ret
      exact made_none HB.out
  obtain ⟨n0, rfl⟩ : ∃ n0 : Nat, n = n0 := ⟨n.toNat, by omega⟩
  have g1 : decide ((n0 : Int) < 2) = false := decide_eq_false (by omega)
  have g2 : decide (8 < (n0 : Int)) = false := decide_eq_false (by omega)
  cases r3 with
  | false =>
    obtain rfl := HN.out fun h => by have := h.2.2; cases this
    clear HN HY HSea
    go_enter Tryz.func68, Tryz.ntmps68
    go_wp2_with fail
    refine (C1.out _ HL.out).mono ?_
    rintro e w1 ⟨rfl, b1⟩
    have HB := Lib.hid (below_prev b1)
    have HV1 := Lib.hid (HV.out.below HB.out (Nat.le_refl _))
    clear b1
    go_wp2_with fail
    refine (C3.out _ HV1.out).mono ?_
    rintro e w2 ⟨rfl, b2⟩
    have HB2 := Lib.hid (HB.out.trans (b2.mono HB.out.size))
    clear b2
    go_wp2
    go_ret
    exact made_none HB2.out
  | true =>
    obtain rfl := HY.out ⟨rfl, h2, rfl⟩
    have HS := Lib.hid (HSea.out rfl)
    have hn8 : n0 ≤ 8 := by omega
    have hn2 : 1 ≤ n0 := by omega
    clear HN HY HSea h2
    rw [if_pos rfl]
    simp only [Int.toNat_natCast]
    obtain ⟨i0, hi, hz0, hz1, hz2⟩ := info_parts Tryz.infoRow
    go_enter Tryz.func68, Tryz.ntmps68
    go_wp2_with fail
    refine (C1.out _ HL.out).mono ?_
    rintro e w1 ⟨rfl, b1⟩
    have BU := BoxN.made b1 (B := w.heap.size) rfl
    have HB := Lib.hid (below_prev b1)
    have HBU := Lib.hid BU
    have HV1 := Lib.hid (HV.out.below HB.out (Nat.le_refl _))
    clear b1 BU
    go_wp2_with fail
    refine (C3.out _ HV1.out).mono ?_
    rintro e w2 ⟨rfl, b2⟩
    have HB2 := Lib.hid (HB.out.trans (b2.mono HB.out.size))
    have HBU2 := Lib.hid (BoxN.below HBU.out b2)
    have v0 := HBU2.out.2 0 _ rfl
    have v1 := HBU2.out.2 1 _ rfl
    have v2 := HBU2.out.2 2 _ rfl
    have v3 := HBU2.out.2 3 _ rfl
    have v4 := HBU2.out.2 4 _ rfl
    have hl := HBU2.out.1
    have hb20 : Below w2.heap.size w2 (w2.alloc (.cells #[.int .i64 0, .int .i64 0, .int .i64 0, .int .i64 0, .int .i64 0, .int .i64 0, .int .i64 0, .int .i64 win, .int .i64 draw, .int .i64 loss, .slice la nl lc, .bool agn] 128)) := (Below.refl _ _).alloc (Nat.le_refl _) _
    have hx0 : BoxN (w2.alloc (.cells #[.int .i64 0, .int .i64 0, .int .i64 0, .int .i64 0, .int .i64 0, .int .i64 0, .int .i64 0, .int .i64 win, .int .i64 draw, .int .i64 loss, .slice la nl lc, .bool agn] 128)) w2.heap.size (teamCs zeroR win draw loss (.slice la nl lc) agn) := BoxN.made (Below.refl _ _) rfl
    have HB20 := Lib.hid hb20
    have HX0 : Hid (CellsAt (w2.alloc (.cells #[.int .i64 0, .int .i64 0, .int .i64 0, .int .i64 0, .int .i64 0, .int .i64 0, .int .i64 0, .int .i64 win, .int .i64 draw, .int .i64 loss, .slice la nl lc, .bool agn] 128)) w2.heap.size 0 (teamCs zeroR win draw loss (.slice la nl lc) agn)) := ⟨hx0.1, fun j u hu => by rw [Nat.zero_add]; exact hx0.2 j u hu⟩
    clear b2 HBU HV1 hb20 hx0 C1 C3 HL
    go_wp2_with fail
    refine (repeat_impl n0 ⟨hn2, hn8⟩ _ (teamCs zeroR win draw loss (.slice la nl lc) agn) rfl team_ones _ HX0.out).mono ?_
    rintro e w4 ⟨gg, xs0, rfl, ho4, hc4, b4⟩
    have hz2 := HB2.out.size
    have HB4 := Lib.hid (HB2.out.trans ((HB20.out.trans (b4.mono HB20.out.size)).mono hz2))
    have HO4 := Lib.hid (owns_mono ho4 (Nat.le_trans hz2 HB20.out.size))
    have HC4 := Lib.hid hc4
    have hgb := (HO4.out.lt gg rfl).1
    obtain ⟨aa, cap, rfl, hm, hcf⟩ := HV.out.form
    have HVC := Lib.hid hcf
    clear ho4 hc4 b4 v0 v1 v2 v3 v4 hl HX0 HB20 HB2 HBU2 HB hz2 hcf
    clear g1 g2
    go_wp2
    go_loopw [42] (fun i wr => ∃ (k : Nat) (xs : List Value), k ≤ m ∧ i = .int .i64 k ∧ Hid (wr.ownsRow w.heap.size 128 12 (.slice (some ⟨gg, 0, none⟩) n0 n0) n0 xs) ∧ Hid (RecCells 12 n0 xs (fun i => teamCs (tabR win draw loss (selG true (fun _ => 0) 0) g k i) win draw loss (.slice la nl lc) agn)) ∧ Hid (Below w.heap.size w wr)) (fun i _ => m - (RowKit.intOf i).toNat)
    case atStart => exact ⟨0, _, Nat.zero_le _, rfl, HO4, HC4, HB4⟩
    case round =>
      clear HO4 HC4 HB4
      obtain ⟨k, xs, hk, rfl, HO, HC, HB⟩ := hrel
      by_cases hlt : k < m
      · obtain ⟨b, off, rfl, hcap, hcc⟩ := HVC.out (by omega)
        have hq := (hcc k hlt).belowB HB.out (hcc k hlt).1
        have hgp := HS.out k hlt
        have HY : Hid ((selG true (fun _ => 0) 0) (g k) = true → tabR win draw loss (selG true (fun _ => 0) 0) g (k + 1) = addG win draw loss (tabR win draw loss (selG true (fun _ => 0) 0) g k) (g k)) := fun h => if_pos h
        have HN : Hid ((selG true (fun _ => 0) 0) (g k) = false → tabR win draw loss (selG true (fun _ => 0) 0) g (k + 1) = tabR win draw loss (selG true (fun _ => 0) 0) g k) := fun h => if_neg (by rw [h]; simp)
        have HSel : Hid ((selG true (fun _ => 0) 0) (g k) = true) := by show _ = _; simp [selG]
        rw [HSel.out] at HY HN
        generalize g k = x at *
        obtain ⟨x0, x1, x2, x3, x4⟩ := x
        obtain ⟨⟨n1, n2⟩, ⟨q1, q2⟩, ⟨q3, q4⟩, _⟩ := hgp
        simp only at q1 q2 q3 q4 HY HN
        obtain ⟨p, rfl⟩ : ∃ p : Nat, x0 = p := ⟨x0.toNat, by omega⟩
        obtain ⟨q, rfl⟩ : ∃ q : Nat, x1 = q := ⟨x1.toNat, by omega⟩
        have hpn : p < n0 := by omega
        have hqn : q < n0 := by omega
        have hpn' : (p : Int) < n0 := by omega
        have hqn' : (q : Int) < n0 := by omega
        obtain ⟨c0, c1, c2, c3, c4⟩ := game_cells hq
        simp only at c0 c1 c2 c3 c4
        have hgw : gg < wr.heap.size := (HO.out.lt gg rfl).2
        have hsz := HB.out.size
        have CG := Lib.hid (fun w1 => goalsOf_impl p q x2 x3 x4 w1)
        have CW := Lib.hid (fun w1 => allCl_impl ⟨p, q, x2, x3, x4⟩ w1)
        have HA : Hid (addG win draw loss (tabR win draw loss (selG true (fun _ => 0) 0) g k) ⟨p, q, x2, x3, x4⟩ = if (goalsD ⟨p, q, x2, x3, x4⟩).2.2 = true then putR (putR (tabR win draw loss (selG true (fun _ => 0) 0) g k) p (addW (tabR win draw loss (selG true (fun _ => 0) 0) g k p) (homeR win draw loss ⟨p, q, x2, x3, x4⟩))) q (addW (putR (tabR win draw loss (selG true (fun _ => 0) 0) g k) p (addW (tabR win draw loss (selG true (fun _ => 0) 0) g k p) (homeR win draw loss ⟨p, q, x2, x3, x4⟩)) q) (awayR win draw loss ⟨p, q, x2, x3, x4⟩)) else tabR win draw loss (selG true (fun _ => 0) 0) g k) := by
          show addG win draw loss (tabR win draw loss (selG true (fun _ => 0) 0) g k) ⟨p, q, x2, x3, x4⟩ = _
          unfold addG
          simp
        have HSide := Lib.hid (side_home win draw loss ⟨p, q, x2, x3, x4⟩)
        simp only at CW
        have hal := (Below.refl wr.heap.size wr).alloc (Nat.le_refl _) (.cells #[.int .i64 (p : Int), .int .i64 (q : Int), .int .i64 x2, .int .i64 x3, .int .i64 x4] 93)
        have HO1 := Lib.hid (owns_below HO.out hal (Nat.le_refl _))
        have HB1 := Lib.hid (HB.out.trans (hal.mono hsz))
        clear hcc HVC hq HSel hal HO HB q1 q2 q3 q4 n1 n2 HS
        generalize hT1 : tabR win draw loss (selG true (fun _ => 0) 0) g (k + 1) = T1 at *
        have HT1 := Lib.hid hT1
        clear hT1
        generalize tabR win draw loss (selG true (fun _ => 0) 0) g k = T at *
        generalize homeR win draw loss ⟨p, q, x2, x3, x4⟩ = X at *
        generalize awayR win draw loss ⟨p, q, x2, x3, x4⟩ = Y at *
        generalize addG win draw loss T ⟨p, q, x2, x3, x4⟩ = T2 at *
        generalize goalsD ⟨p, q, x2, x3, x4⟩ = gd at *
        obtain ⟨gh, ga, ok⟩ := gd
        simp only at CG HA HSide
        go_wp2_with fail
        refine (CG.out _).mono ?_
        rintro e w1 ⟨rfl, b1⟩
        have HX := Lib.hid (BoxN.made b1 (B := wr.heap.size) rfl)
        have HO := Lib.hid (owns_below HO1.out b1 (by simp))
        have HB := Lib.hid (HB1.out.trans (b1.mono HB1.out.size))
        clear HO1 HB1 b1 c0 c1 c2 c3 c4 CG
        cases ok with
        | false =>
          have HA2 := HA.out.trans (if_neg (by simp))
          have HT : Hid (T1 = T) := Lib.hid ((HY.out trivial).trans HA2)
          clear HA HA2 HSide HY HN CW
          go_wp2
          go_roundw
          case rel => exact ⟨k + 1, xs, by omega, by go_num, HO, by rw [HT1.out, HT.out]; exact HC, HB⟩
          case measure => simp [RowKit.intOf]; omega
        | true =>
          have HA2 := Lib.hid (HA.out.trans (if_pos rfl))
          obtain ⟨rfl, rfl⟩ := HSide.out rfl
          clear HA HSide
          have d0 := HX.out.2 0 _ rfl
          have d1 := HX.out.2 1 _ rfl
          have d2 := HX.out.2 2 _ rfl
          have d3 := HX.out.2 3 _ rfl
          have d4 := HX.out.2 4 _ rfl
          have hxl := HX.out.1
          have HTa := HY.out (by first | rfl | trivial)
          have HT := Lib.hid (HTa.trans HA2.out)
          clear HTa HA2 HY HN
          go_wp2_with (go_at_call 69; refine (CW.out _).mono ?_; rintro e w2 ⟨rfl, b2⟩; clear d0 d1 d2 d3 d4 hxl; replace HX := Lib.hid (BoxN.below HX.out b2); replace HO := Lib.hid (owns_below HO.out b2 (Nat.le_refl _)); replace HB := Lib.hid (HB.out.trans (b2.mono HB.out.size)); have d0 := HX.out.2 0 _ rfl; have d1 := HX.out.2 1 _ rfl; have d2 := HX.out.2 2 _ rfl; have d3 := HX.out.2 3 _ rfl; have d4 := HX.out.2 4 _ rfl; have hxl := HX.out.1; clear b2 CW)
          refine (count_impl win draw loss gh ga (T p) (.slice la nl lc) agn gg (p * 12) _ ⟨_, _, _, rfl⟩ (team_at HO.out HC.out hpn) (fun j hj => HO.out.frozenAt _)).mono ?_
          rintro e w3 ⟨rfl, w4, b4, rfl⟩
          clear d0 d1 d2 d3 d4 hxl
          replace HC := Lib.hid (cells_team (t := p) (y := addW (T p) (sideR win draw loss gh ga)) HC.out HO.out.1 hpn)
          replace HO := Lib.hid (owns_team (t := p) (y := addW (T p) (sideR win draw loss gh ga)) (owns_below HO.out b4 (Nat.le_refl _)))
          replace HX := Lib.hid (box_team (gg := gg) (o := p * 12) (y := addW (T p) (sideR win draw loss gh ga)) (BoxN.below HX.out b4) (by omega))
          replace HB := Lib.hid (below_set7 (B := gg) (o := p * 12) (y := addW (T p) (sideR win draw loss gh ga)) (HB.out.trans (b4.mono HB.out.size)) hgb)
          clear b4
          generalize set7 w4 gg (p * 12) (addW (T p) (sideR win draw loss gh ga)) = w5 at *
          generalize setsFrom xs (p * 12) (addW (T p) (sideR win draw loss gh ga)).cells = xsp at *
          generalize putR T p (addW (T p) (sideR win draw loss gh ga)) = Tp at *
          have d0 := HX.out.2 0 _ rfl
          have d1 := HX.out.2 1 _ rfl
          have d2 := HX.out.2 2 _ rfl
          have d3 := HX.out.2 3 _ rfl
          have d4 := HX.out.2 4 _ rfl
          have hxl := HX.out.1
          go_wp2_with fail
          refine (count_impl win draw loss ga gh (Tp q) (.slice la nl lc) agn gg (q * 12) _ ⟨_, _, _, rfl⟩ (team_at HO.out HC.out hqn) (fun j hj => HO.out.frozenAt _)).mono ?_
          rintro e w3 ⟨rfl, w4, b4, rfl⟩
          clear d0 d1 d2 d3 d4 hxl
          replace HC := Lib.hid (cells_team (t := q) (y := addW (Tp q) (sideR win draw loss ga gh)) HC.out HO.out.1 hqn)
          replace HO := Lib.hid (owns_team (t := q) (y := addW (Tp q) (sideR win draw loss ga gh)) (owns_below HO.out b4 (Nat.le_refl _)))
          replace HX := Lib.hid (box_team (gg := gg) (o := q * 12) (y := addW (Tp q) (sideR win draw loss ga gh)) (BoxN.below HX.out b4) (by omega))
          replace HB := Lib.hid (below_set7 (B := gg) (o := q * 12) (y := addW (Tp q) (sideR win draw loss ga gh)) (HB.out.trans (b4.mono HB.out.size)) hgb)
          clear b4
          generalize set7 w4 gg (q * 12) (addW (Tp q) (sideR win draw loss ga gh)) = w6 at *
          generalize setsFrom xsp (q * 12) (addW (Tp q) (sideR win draw loss ga gh)).cells = xsq at *
          generalize putR Tp q (addW (Tp q) (sideR win draw loss ga gh)) = Tq at *
          have d0 := HX.out.2 0 _ rfl
          have d1 := HX.out.2 1 _ rfl
          have d2 := HX.out.2 2 _ rfl
          have d3 := HX.out.2 3 _ rfl
          have d4 := HX.out.2 4 _ rfl
          have hxl := HX.out.1
          go_wp2
          go_roundw
          case rel => exact ⟨k + 1, _, by omega, by go_num, HO, by rw [HT1.out, HT.out]; exact HC, HB⟩
          case measure => simp [RowKit.intOf]; omega
      · obtain rfl : k = m := by omega
        obtain ⟨T, hT⟩ : ∃ T, T = tabR win draw loss (selG true (fun _ => 0) 0) g k := ⟨_, rfl⟩
        rw [← hT] at HC
        have HT := Lib.hid hT
        have hsz := HB.out.size
        have HIn := Lib.hid (InW.of_owns HO.out)
        clear hT HVC HS
        go_wp2_with (at_make; refine wpList_make_full _ rfl _ _ 50 rfl w.heap.size 115 i0 (.agg #[.int .i64 0, .int .i64 0, .int .i64 0, .int .i64 0, .int .i64 0, .int .i64 0, .int .i64 0]) 7 Tryz.underlying50 hi hz0 hz1 .i64 .i64 n0 n0 n0 rfl rfl rfl rfl (by rw [hz2]; omega) (by unfold maxLen; omega) hsz ?_; intro w6 hown hg1)
        have b6 : Below wr.heap.size wr w6 := (Below.refl _ _).grown hg1 (Nat.le_refl _) (fun k hk => by cases hk)
        have HR6 := Lib.hid hown
        have HO6 := Lib.hid (owns_below HO.out b6 (Nat.le_refl _))
        have HB6 := Lib.hid (HB.out.trans (b6.mono hsz))
        generalize (madeCells (Value.agg #[.int .i64 0, .int .i64 0, .int .i64 0, .int .i64 0, .int .i64 0, .int .i64 0, .int .i64 0]).cells (n0 * 7)).toList = ys0 at *
        clear hown hg1 b6 HO HB
        generalize hE : wr.heap.size = hh at *
        clear hE
        go_wp2
        go_loopw [77] (fun i wr => ∃ (k : Nat) (ys : List Value), k ≤ n0 ∧ i = .int .i64 k ∧ Hid (wr.ownsRow w.heap.size 115 7 (.slice (some ⟨hh, 0, none⟩) n0 n0) n0 ys) ∧ Hid (RecCells 7 k ys (fun i => (T i).cells)) ∧ Hid (wr.ownsRow w.heap.size 128 12 (.slice (some ⟨gg, 0, none⟩) n0 n0) n0 xs) ∧ Hid (Below w.heap.size w wr)) (fun i _ => n0 - (RowKit.intOf i).toNat)
        case atStart => exact ⟨0, _, Nat.zero_le _, rfl, HR6, RecCells.nil, HO6, HB6⟩
        case round =>
          clear HR6 HO6 HB6
          obtain ⟨j, ys, hj, rfl, HR, HD, HO, HB⟩ := hrel
          by_cases hlt2 : j < n0
          · have hq := team_at HO.out HC.out hlt2
            have HU := Lib.hid (RecCells.sets (cs := (T j).cells) HD.out HR.out.1 hlt2 rfl rfl (fun _ _ => Nat.le_refl _))
            have hjn : (j : Int) < n0 := by omega
            generalize T j = x at *
            obtain ⟨c0, c1, c2, c3, c4, c5, c6⟩ := row_cells (team_row hq)
            obtain ⟨r7, r8, r9, r10, r11⟩ := team_rules hq
            have hgl := hq.1
            have hsz2 := HB.out.size
            have hhl := (HR.out.lt hh rfl).2
            obtain ⟨u0, e0⟩ := owns_cellR HR.out (j * 7) (by omega)
            have f0 := HR.out.frozenAt (j * 7)
            obtain ⟨u1, e1⟩ := owns_cellR HR.out (j * 7 + 1) (by omega)
            have f1 := HR.out.frozenAt (j * 7 + 1)
            obtain ⟨u2, e2⟩ := owns_cellR HR.out (j * 7 + 2) (by omega)
            have f2 := HR.out.frozenAt (j * 7 + 2)
            obtain ⟨u3, e3⟩ := owns_cellR HR.out (j * 7 + 3) (by omega)
            have f3 := HR.out.frozenAt (j * 7 + 3)
            obtain ⟨u4, e4⟩ := owns_cellR HR.out (j * 7 + 4) (by omega)
            have f4 := HR.out.frozenAt (j * 7 + 4)
            obtain ⟨u5, e5⟩ := owns_cellR HR.out (j * 7 + 5) (by omega)
            have f5 := HR.out.frozenAt (j * 7 + 5)
            obtain ⟨u6, e6⟩ := owns_cellR HR.out (j * 7 + 6) (by omega)
            have f6 := HR.out.frozenAt (j * 7 + 6)
            have HR2 := Lib.hid (owns_put (t := j) (y := x) HR.out)
            have HO2 := Lib.hid (owns_touch HO.out (touch_put (t := j) (y := x) (Touch.refl hh (hh + 1) wr) (Nat.le_refl _) (Nat.lt_succ_self _)) HIn.out (.inl (Nat.le_refl _)))
            have HB2 := Lib.hid (below_set7 (B := hh) (o := j * 7) (y := x) HB.out (HR.out.lt hh rfl).1)
            clear hq HR HO HB HD
            go_wp2
            go_roundw
            case rel => exact ⟨j + 1, _, by omega, by go_num, Lib.hid (HR2.out.alloc _), HU, Lib.hid (HO2.out.alloc _), Lib.hid (HB2.out.alloc HB2.out.size _)⟩
            case measure => simp [RowKit.intOf]; omega
          · obtain rfl : j = n0 := by omega
            go_wp2
            go_ret
            exact ⟨_, rfl, RecRow.of_owns HR.out (by omega) (RecCells.congr HD.out fun i _ => by rw [HT.out]) (fun _ _ => Nat.le_refl _), ⟨_, HR.out⟩, HB.out⟩

set_option maxRecDepth 100000 in
set_option maxHeartbeats 4000000 in
theorem whereAmong_impl (win draw loss : Int) (lad : Value) (nl : Nat) (gl : Nat → Int) (agn : Bool) (n : Int) (v : Value) (m : Nat) (g : Nat → GameD) (GB : Nat) (gv : Value) (ng : Nat) (gx : Nat → Int) (R : Bool) (w : World) (hR : R = true ↔ tabP win draw loss nl gl n m g)
    (hlad : IntRow w lad nl gl) (hv : GameRow w v m g) (hgb : BoxN w GB [gv]) (hgr : IntRow w gv ng gx) :
    Calls Tryz.prog 68 #[.agg #[.int .i64 win, .int .i64 draw, .int .i64 loss, lad, .bool agn], .int .i64 n, v, .func (.func 91) #[] #[.pointer (some ⟨GB, 0, none⟩)]] w (RecMade 7 115 w (if R = true then n.toNat else 0) (fun i => (tabR win draw loss (selG false gx ng) g m i).cells)) := by
  obtain ⟨r1, hr1⟩ := boolEx (rulesP win draw loss nl gl)
  obtain ⟨r3, hr3⟩ := boolEx (seasonP n m g)
  have C1 := Lib.hid (fun w1 h1 => rulesOk_impl win draw loss agn r1 lad nl gl w1 hr1 h1)
  have C3 := Lib.hid (fun w1 h1 => seasonOk_impl n v m g r3 w1 hr3 h1)
  have hall : R = true ↔ (r1 = true ∧ (2 ≤ n ∧ n ≤ 8) ∧ r3 = true) := by rw [hR, hr1, hr3]; exact Iff.rfl
  have HN := Lib.hid (boolF hall)
  have HY := Lib.hid (boolT hall)
  have HSea : Hid (r3 = true → ∀ i, i < m → gameP n (g i)) := fun h i hi => ((hr3.1 h).2 i hi).1
  have HV := Lib.hid hv
  have HGB := Lib.hid hgb
  have HGR := Lib.hid hgr
  clear hgb hgr
  obtain ⟨la, lc, rfl, _, _⟩ := hlad.form
  have HL := Lib.hid (hlad.below ((Below.refl w.heap.size w).alloc (Nat.le_refl _) (.cells #[.int .i64 win, .int .i64 draw, .int .i64 loss, .slice la nl lc, .bool agn] 26)) (Nat.le_refl _))
  clear hR hr1 hr3 hall hlad hv
  cases r1 with
  | false =>
    obtain rfl := HN.out fun h => by have := h.1; cases this
    clear HN HY HSea
    go_enter Tryz.func68, Tryz.ntmps68
    go_wp2_with fail
    refine (C1.out _ HL.out).mono ?_
    rintro e w1 ⟨rfl, b1⟩
    have HB := Lib.hid (below_prev b1)
    clear b1
    go_wp2
    go_ret
    exact made_none HB.out
  | true =>
  by_cases h2 : 2 ≤ n ∧ n ≤ 8
  case neg =>
    obtain rfl := HN.out fun h => h2 h.2.1
    clear HN HY HSea
    by_cases h3 : n < 2
    · have g1 : decide (n < 2) = true := decide_eq_true h3
      clear h2
      go_enter Tryz.func68, Tryz.ntmps68
      go_wp2_with fail
      refine (C1.out _ HL.out).mono ?_
      rintro e w1 ⟨rfl, b1⟩
      have HB := Lib.hid (below_prev b1)
      clear b1
      go_wp2
      go_ret
      exact made_none HB.out
    · have g1 : decide (n < 2) = false := decide_eq_false h3
      have g2 : decide (8 < n) = true := decide_eq_true (by omega)
      clear h2
      go_enter Tryz.func68, Tryz.ntmps68
      go_wp2_with fail
      refine (C1.out _ HL.out).mono ?_
      rintro e w1 ⟨rfl, b1⟩
      have HB := Lib.hid (below_prev b1)
      clear b1
      go_wp2
      go_ret
      exact made_none HB.out
  obtain ⟨n0, rfl⟩ : ∃ n0 : Nat, n = n0 := ⟨n.toNat, by omega⟩
  have g1 : decide ((n0 : Int) < 2) = false := decide_eq_false (by omega)
  have g2 : decide (8 < (n0 : Int)) = false := decide_eq_false (by omega)
  cases r3 with
  | false =>
    obtain rfl := HN.out fun h => by have := h.2.2; cases this
    clear HN HY HSea
    go_enter Tryz.func68, Tryz.ntmps68
    go_wp2_with fail
    refine (C1.out _ HL.out).mono ?_
    rintro e w1 ⟨rfl, b1⟩
    have HB := Lib.hid (below_prev b1)
    have HV1 := Lib.hid (HV.out.below HB.out (Nat.le_refl _))
    clear b1
    go_wp2_with fail
    refine (C3.out _ HV1.out).mono ?_
    rintro e w2 ⟨rfl, b2⟩
    have HB2 := Lib.hid (HB.out.trans (b2.mono HB.out.size))
    clear b2
    go_wp2
    go_ret
    exact made_none HB2.out
  | true =>
    obtain rfl := HY.out ⟨rfl, h2, rfl⟩
    have HS := Lib.hid (HSea.out rfl)
    have hn8 : n0 ≤ 8 := by omega
    have hn2 : 1 ≤ n0 := by omega
    clear HN HY HSea h2
    rw [if_pos rfl]
    simp only [Int.toNat_natCast]
    obtain ⟨i0, hi, hz0, hz1, hz2⟩ := info_parts Tryz.infoRow
    go_enter Tryz.func68, Tryz.ntmps68
    go_wp2_with fail
    refine (C1.out _ HL.out).mono ?_
    rintro e w1 ⟨rfl, b1⟩
    have BU := BoxN.made b1 (B := w.heap.size) rfl
    have HB := Lib.hid (below_prev b1)
    have HBU := Lib.hid BU
    have HV1 := Lib.hid (HV.out.below HB.out (Nat.le_refl _))
    clear b1 BU
    go_wp2_with fail
    refine (C3.out _ HV1.out).mono ?_
    rintro e w2 ⟨rfl, b2⟩
    have HB2 := Lib.hid (HB.out.trans (b2.mono HB.out.size))
    have HBU2 := Lib.hid (BoxN.below HBU.out b2)
    have v0 := HBU2.out.2 0 _ rfl
    have v1 := HBU2.out.2 1 _ rfl
    have v2 := HBU2.out.2 2 _ rfl
    have v3 := HBU2.out.2 3 _ rfl
    have v4 := HBU2.out.2 4 _ rfl
    have hl := HBU2.out.1
    have hb20 : Below w2.heap.size w2 (w2.alloc (.cells #[.int .i64 0, .int .i64 0, .int .i64 0, .int .i64 0, .int .i64 0, .int .i64 0, .int .i64 0, .int .i64 win, .int .i64 draw, .int .i64 loss, .slice la nl lc, .bool agn] 128)) := (Below.refl _ _).alloc (Nat.le_refl _) _
    have hx0 : BoxN (w2.alloc (.cells #[.int .i64 0, .int .i64 0, .int .i64 0, .int .i64 0, .int .i64 0, .int .i64 0, .int .i64 0, .int .i64 win, .int .i64 draw, .int .i64 loss, .slice la nl lc, .bool agn] 128)) w2.heap.size (teamCs zeroR win draw loss (.slice la nl lc) agn) := BoxN.made (Below.refl _ _) rfl
    have HB20 := Lib.hid hb20
    have HX0 : Hid (CellsAt (w2.alloc (.cells #[.int .i64 0, .int .i64 0, .int .i64 0, .int .i64 0, .int .i64 0, .int .i64 0, .int .i64 0, .int .i64 win, .int .i64 draw, .int .i64 loss, .slice la nl lc, .bool agn] 128)) w2.heap.size 0 (teamCs zeroR win draw loss (.slice la nl lc) agn)) := ⟨hx0.1, fun j u hu => by rw [Nat.zero_add]; exact hx0.2 j u hu⟩
    clear b2 HBU HV1 hb20 hx0 C1 C3 HL
    go_wp2_with fail
    refine (repeat_impl n0 ⟨hn2, hn8⟩ _ (teamCs zeroR win draw loss (.slice la nl lc) agn) rfl team_ones _ HX0.out).mono ?_
    rintro e w4 ⟨gg, xs0, rfl, ho4, hc4, b4⟩
    have hz2 := HB2.out.size
    have HB4 := Lib.hid (HB2.out.trans ((HB20.out.trans (b4.mono HB20.out.size)).mono hz2))
    have HO4 := Lib.hid (owns_mono ho4 (Nat.le_trans hz2 HB20.out.size))
    have HC4 := Lib.hid hc4
    have hgb := (HO4.out.lt gg rfl).1
    obtain ⟨aa, cap, rfl, hm, hcf⟩ := HV.out.form
    have HVC := Lib.hid hcf
    clear ho4 hc4 b4 v0 v1 v2 v3 v4 hl HX0 HB20 HB2 HBU2 HB hz2 hcf
    clear g1 g2
    go_wp2
    go_loopw [42] (fun i wr => ∃ (k : Nat) (xs : List Value), k ≤ m ∧ i = .int .i64 k ∧ Hid (wr.ownsRow w.heap.size 128 12 (.slice (some ⟨gg, 0, none⟩) n0 n0) n0 xs) ∧ Hid (RecCells 12 n0 xs (fun i => teamCs (tabR win draw loss (selG false gx ng) g k i) win draw loss (.slice la nl lc) agn)) ∧ Hid (Below w.heap.size w wr)) (fun i _ => m - (RowKit.intOf i).toNat)
    case atStart => exact ⟨0, _, Nat.zero_le _, rfl, HO4, HC4, HB4⟩
    case round =>
      clear HO4 HC4 HB4
      obtain ⟨k, xs, hk, rfl, HO, HC, HB⟩ := hrel
      by_cases hlt : k < m
      · obtain ⟨b, off, rfl, hcap, hcc⟩ := HVC.out (by omega)
        have hq := (hcc k hlt).belowB HB.out (hcc k hlt).1
        have hgp := HS.out k hlt
        have HY : Hid ((selG false gx ng) (g k) = true → tabR win draw loss (selG false gx ng) g (k + 1) = addG win draw loss (tabR win draw loss (selG false gx ng) g k) (g k)) := fun h => if_pos h
        have HN : Hid ((selG false gx ng) (g k) = false → tabR win draw loss (selG false gx ng) g (k + 1) = tabR win draw loss (selG false gx ng) g k) := fun h => if_neg (by rw [h]; simp)
        have HSel : Hid ((selG false gx ng) (g k) = (hasB gx ng (g k).home && hasB gx ng (g k).away)) := by show _ = _; simp [selG]
        rw [HSel.out] at HY HN
        generalize g k = x at *
        obtain ⟨x0, x1, x2, x3, x4⟩ := x
        obtain ⟨⟨n1, n2⟩, ⟨q1, q2⟩, ⟨q3, q4⟩, _⟩ := hgp
        simp only at q1 q2 q3 q4 HY HN
        obtain ⟨p, rfl⟩ : ∃ p : Nat, x0 = p := ⟨x0.toNat, by omega⟩
        obtain ⟨q, rfl⟩ : ∃ q : Nat, x1 = q := ⟨x1.toNat, by omega⟩
        have hpn : p < n0 := by omega
        have hqn : q < n0 := by omega
        have hpn' : (p : Int) < n0 := by omega
        have hqn' : (q : Int) < n0 := by omega
        obtain ⟨c0, c1, c2, c3, c4⟩ := game_cells hq
        simp only at c0 c1 c2 c3 c4
        have hgw : gg < wr.heap.size := (HO.out.lt gg rfl).2
        have hsz := HB.out.size
        have CG := Lib.hid (fun w1 => goalsOf_impl p q x2 x3 x4 w1)
        have CW := Lib.hid (fun w1 h1 h2 => amongCl_impl ⟨p, q, x2, x3, x4⟩ GB gv ng gx w1 h1 h2)
        have HA : Hid (addG win draw loss (tabR win draw loss (selG false gx ng) g k) ⟨p, q, x2, x3, x4⟩ = if (goalsD ⟨p, q, x2, x3, x4⟩).2.2 = true then putR (putR (tabR win draw loss (selG false gx ng) g k) p (addW (tabR win draw loss (selG false gx ng) g k p) (homeR win draw loss ⟨p, q, x2, x3, x4⟩))) q (addW (putR (tabR win draw loss (selG false gx ng) g k) p (addW (tabR win draw loss (selG false gx ng) g k p) (homeR win draw loss ⟨p, q, x2, x3, x4⟩)) q) (awayR win draw loss ⟨p, q, x2, x3, x4⟩)) else tabR win draw loss (selG false gx ng) g k) := by
          show addG win draw loss (tabR win draw loss (selG false gx ng) g k) ⟨p, q, x2, x3, x4⟩ = _
          unfold addG
          simp
        have HSide := Lib.hid (side_home win draw loss ⟨p, q, x2, x3, x4⟩)
        simp only at CW
        have hal := (Below.refl wr.heap.size wr).alloc (Nat.le_refl _) (.cells #[.int .i64 (p : Int), .int .i64 (q : Int), .int .i64 x2, .int .i64 x3, .int .i64 x4] 93)
        have HO1 := Lib.hid (owns_below HO.out hal (Nat.le_refl _))
        have HB1 := Lib.hid (HB.out.trans (hal.mono hsz))
        clear hcc HVC hq HSel hal HO HB q1 q2 q3 q4 n1 n2 HS
        generalize hT1 : tabR win draw loss (selG false gx ng) g (k + 1) = T1 at *
        have HT1 := Lib.hid hT1
        clear hT1
        generalize tabR win draw loss (selG false gx ng) g k = T at *
        generalize homeR win draw loss ⟨p, q, x2, x3, x4⟩ = X at *
        generalize awayR win draw loss ⟨p, q, x2, x3, x4⟩ = Y at *
        generalize addG win draw loss T ⟨p, q, x2, x3, x4⟩ = T2 at *
        generalize goalsD ⟨p, q, x2, x3, x4⟩ = gd at *
        obtain ⟨gh, ga, ok⟩ := gd
        simp only at CG HA HSide
        go_wp2_with fail
        refine (CG.out _).mono ?_
        rintro e w1 ⟨rfl, b1⟩
        have HX := Lib.hid (BoxN.made b1 (B := wr.heap.size) rfl)
        have HO := Lib.hid (owns_below HO1.out b1 (by simp))
        have HB := Lib.hid (HB1.out.trans (b1.mono HB1.out.size))
        clear HO1 HB1 b1 c0 c1 c2 c3 c4 CG
        cases ok with
        | false =>
          have HA2 := HA.out.trans (if_neg (by simp))
          have HT : Hid (T1 = T) := Lib.hid (by cases hs : (hasB gx ng (p : Int) && hasB gx ng (q : Int)) with | true => exact (HY.out hs).trans HA2 | false => exact HN.out hs)
          clear HA HA2 HSide HY HN CW
          go_wp2
          go_roundw
          case rel => exact ⟨k + 1, xs, by omega, by go_num, HO, by rw [HT1.out, HT.out]; exact HC, HB⟩
          case measure => simp [RowKit.intOf]; omega
        | true =>
          have HA2 := Lib.hid (HA.out.trans (if_pos rfl))
          obtain ⟨rfl, rfl⟩ := HSide.out rfl
          clear HA HSide
          have d0 := HX.out.2 0 _ rfl
          have d1 := HX.out.2 1 _ rfl
          have d2 := HX.out.2 2 _ rfl
          have d3 := HX.out.2 3 _ rfl
          have d4 := HX.out.2 4 _ rfl
          have hxl := HX.out.1
          generalize (hasB gx ng (p : Int) && hasB gx ng (q : Int)) = sb at *
          cases sb with
          | true =>
            have HTa := HY.out (by first | rfl | trivial)
            have HT := Lib.hid (HTa.trans HA2.out)
            clear HTa HA2 HY HN
            go_wp2_with (go_at_call 91; refine (CW.out _ (BoxN.below HGB.out HB.out) (HGR.out.below HB.out (Nat.le_refl _))).mono ?_; rintro e w2 ⟨rfl, b2⟩; clear d0 d1 d2 d3 d4 hxl; replace HX := Lib.hid (BoxN.below HX.out b2); replace HO := Lib.hid (owns_below HO.out b2 (Nat.le_refl _)); replace HB := Lib.hid (HB.out.trans (b2.mono HB.out.size)); have d0 := HX.out.2 0 _ rfl; have d1 := HX.out.2 1 _ rfl; have d2 := HX.out.2 2 _ rfl; have d3 := HX.out.2 3 _ rfl; have d4 := HX.out.2 4 _ rfl; have hxl := HX.out.1; clear b2 CW)
            refine (count_impl win draw loss gh ga (T p) (.slice la nl lc) agn gg (p * 12) _ ⟨_, _, _, rfl⟩ (team_at HO.out HC.out hpn) (fun j hj => HO.out.frozenAt _)).mono ?_
            rintro e w3 ⟨rfl, w4, b4, rfl⟩
            clear d0 d1 d2 d3 d4 hxl
            replace HC := Lib.hid (cells_team (t := p) (y := addW (T p) (sideR win draw loss gh ga)) HC.out HO.out.1 hpn)
            replace HO := Lib.hid (owns_team (t := p) (y := addW (T p) (sideR win draw loss gh ga)) (owns_below HO.out b4 (Nat.le_refl _)))
            replace HX := Lib.hid (box_team (gg := gg) (o := p * 12) (y := addW (T p) (sideR win draw loss gh ga)) (BoxN.below HX.out b4) (by omega))
            replace HB := Lib.hid (below_set7 (B := gg) (o := p * 12) (y := addW (T p) (sideR win draw loss gh ga)) (HB.out.trans (b4.mono HB.out.size)) hgb)
            clear b4
            generalize set7 w4 gg (p * 12) (addW (T p) (sideR win draw loss gh ga)) = w5 at *
            generalize setsFrom xs (p * 12) (addW (T p) (sideR win draw loss gh ga)).cells = xsp at *
            generalize putR T p (addW (T p) (sideR win draw loss gh ga)) = Tp at *
            have d0 := HX.out.2 0 _ rfl
            have d1 := HX.out.2 1 _ rfl
            have d2 := HX.out.2 2 _ rfl
            have d3 := HX.out.2 3 _ rfl
            have d4 := HX.out.2 4 _ rfl
            have hxl := HX.out.1
            go_wp2_with fail
            refine (count_impl win draw loss ga gh (Tp q) (.slice la nl lc) agn gg (q * 12) _ ⟨_, _, _, rfl⟩ (team_at HO.out HC.out hqn) (fun j hj => HO.out.frozenAt _)).mono ?_
            rintro e w3 ⟨rfl, w4, b4, rfl⟩
            clear d0 d1 d2 d3 d4 hxl
            replace HC := Lib.hid (cells_team (t := q) (y := addW (Tp q) (sideR win draw loss ga gh)) HC.out HO.out.1 hqn)
            replace HO := Lib.hid (owns_team (t := q) (y := addW (Tp q) (sideR win draw loss ga gh)) (owns_below HO.out b4 (Nat.le_refl _)))
            replace HX := Lib.hid (box_team (gg := gg) (o := q * 12) (y := addW (Tp q) (sideR win draw loss ga gh)) (BoxN.below HX.out b4) (by omega))
            replace HB := Lib.hid (below_set7 (B := gg) (o := q * 12) (y := addW (Tp q) (sideR win draw loss ga gh)) (HB.out.trans (b4.mono HB.out.size)) hgb)
            clear b4
            generalize set7 w4 gg (q * 12) (addW (Tp q) (sideR win draw loss ga gh)) = w6 at *
            generalize setsFrom xsp (q * 12) (addW (Tp q) (sideR win draw loss ga gh)).cells = xsq at *
            generalize putR Tp q (addW (Tp q) (sideR win draw loss ga gh)) = Tq at *
            have d0 := HX.out.2 0 _ rfl
            have d1 := HX.out.2 1 _ rfl
            have d2 := HX.out.2 2 _ rfl
            have d3 := HX.out.2 3 _ rfl
            have d4 := HX.out.2 4 _ rfl
            have hxl := HX.out.1
            go_wp2
            go_roundw
            case rel => exact ⟨k + 1, _, by omega, by go_num, HO, by rw [HT1.out, HT.out]; exact HC, HB⟩
            case measure => simp [RowKit.intOf]; omega
          | false =>
            have HT := Lib.hid (HN.out (by first | rfl | trivial))
            clear HA2 HY HN
            go_wp2_with (go_at_call 91; refine (CW.out _ (BoxN.below HGB.out HB.out) (HGR.out.below HB.out (Nat.le_refl _))).mono ?_; rintro e w2 ⟨rfl, b2⟩; clear d0 d1 d2 d3 d4 hxl; replace HX := Lib.hid (BoxN.below HX.out b2); replace HO := Lib.hid (owns_below HO.out b2 (Nat.le_refl _)); replace HB := Lib.hid (HB.out.trans (b2.mono HB.out.size)); have d0 := HX.out.2 0 _ rfl; have d1 := HX.out.2 1 _ rfl; have d2 := HX.out.2 2 _ rfl; have d3 := HX.out.2 3 _ rfl; have d4 := HX.out.2 4 _ rfl; have hxl := HX.out.1; clear b2 CW)
            go_roundw
            case rel => exact ⟨k + 1, _, by omega, by go_num, HO, by rw [HT1.out, HT.out]; exact HC, HB⟩
            case measure => simp [RowKit.intOf]; omega
      · obtain rfl : k = m := by omega
        obtain ⟨T, hT⟩ : ∃ T, T = tabR win draw loss (selG false gx ng) g k := ⟨_, rfl⟩
        rw [← hT] at HC
        have HT := Lib.hid hT
        have hsz := HB.out.size
        have HIn := Lib.hid (InW.of_owns HO.out)
        clear hT HVC HS
        go_wp2_with (at_make; refine wpList_make_full _ rfl _ _ 50 rfl w.heap.size 115 i0 (.agg #[.int .i64 0, .int .i64 0, .int .i64 0, .int .i64 0, .int .i64 0, .int .i64 0, .int .i64 0]) 7 Tryz.underlying50 hi hz0 hz1 .i64 .i64 n0 n0 n0 rfl rfl rfl rfl (by rw [hz2]; omega) (by unfold maxLen; omega) hsz ?_; intro w6 hown hg1)
        have b6 : Below wr.heap.size wr w6 := (Below.refl _ _).grown hg1 (Nat.le_refl _) (fun k hk => by cases hk)
        have HR6 := Lib.hid hown
        have HO6 := Lib.hid (owns_below HO.out b6 (Nat.le_refl _))
        have HB6 := Lib.hid (HB.out.trans (b6.mono hsz))
        generalize (madeCells (Value.agg #[.int .i64 0, .int .i64 0, .int .i64 0, .int .i64 0, .int .i64 0, .int .i64 0, .int .i64 0]).cells (n0 * 7)).toList = ys0 at *
        clear hown hg1 b6 HO HB
        generalize hE : wr.heap.size = hh at *
        clear hE
        go_wp2
        go_loopw [77] (fun i wr => ∃ (k : Nat) (ys : List Value), k ≤ n0 ∧ i = .int .i64 k ∧ Hid (wr.ownsRow w.heap.size 115 7 (.slice (some ⟨hh, 0, none⟩) n0 n0) n0 ys) ∧ Hid (RecCells 7 k ys (fun i => (T i).cells)) ∧ Hid (wr.ownsRow w.heap.size 128 12 (.slice (some ⟨gg, 0, none⟩) n0 n0) n0 xs) ∧ Hid (Below w.heap.size w wr)) (fun i _ => n0 - (RowKit.intOf i).toNat)
        case atStart => exact ⟨0, _, Nat.zero_le _, rfl, HR6, RecCells.nil, HO6, HB6⟩
        case round =>
          clear HR6 HO6 HB6
          obtain ⟨j, ys, hj, rfl, HR, HD, HO, HB⟩ := hrel
          by_cases hlt2 : j < n0
          · have hq := team_at HO.out HC.out hlt2
            have HU := Lib.hid (RecCells.sets (cs := (T j).cells) HD.out HR.out.1 hlt2 rfl rfl (fun _ _ => Nat.le_refl _))
            have hjn : (j : Int) < n0 := by omega
            generalize T j = x at *
            obtain ⟨c0, c1, c2, c3, c4, c5, c6⟩ := row_cells (team_row hq)
            obtain ⟨r7, r8, r9, r10, r11⟩ := team_rules hq
            have hgl := hq.1
            have hsz2 := HB.out.size
            have hhl := (HR.out.lt hh rfl).2
            obtain ⟨u0, e0⟩ := owns_cellR HR.out (j * 7) (by omega)
            have f0 := HR.out.frozenAt (j * 7)
            obtain ⟨u1, e1⟩ := owns_cellR HR.out (j * 7 + 1) (by omega)
            have f1 := HR.out.frozenAt (j * 7 + 1)
            obtain ⟨u2, e2⟩ := owns_cellR HR.out (j * 7 + 2) (by omega)
            have f2 := HR.out.frozenAt (j * 7 + 2)
            obtain ⟨u3, e3⟩ := owns_cellR HR.out (j * 7 + 3) (by omega)
            have f3 := HR.out.frozenAt (j * 7 + 3)
            obtain ⟨u4, e4⟩ := owns_cellR HR.out (j * 7 + 4) (by omega)
            have f4 := HR.out.frozenAt (j * 7 + 4)
            obtain ⟨u5, e5⟩ := owns_cellR HR.out (j * 7 + 5) (by omega)
            have f5 := HR.out.frozenAt (j * 7 + 5)
            obtain ⟨u6, e6⟩ := owns_cellR HR.out (j * 7 + 6) (by omega)
            have f6 := HR.out.frozenAt (j * 7 + 6)
            have HR2 := Lib.hid (owns_put (t := j) (y := x) HR.out)
            have HO2 := Lib.hid (owns_touch HO.out (touch_put (t := j) (y := x) (Touch.refl hh (hh + 1) wr) (Nat.le_refl _) (Nat.lt_succ_self _)) HIn.out (.inl (Nat.le_refl _)))
            have HB2 := Lib.hid (below_set7 (B := hh) (o := j * 7) (y := x) HB.out (HR.out.lt hh rfl).1)
            clear hq HR HO HB HD
            go_wp2
            go_roundw
            case rel => exact ⟨j + 1, _, by omega, by go_num, Lib.hid (HR2.out.alloc _), HU, Lib.hid (HO2.out.alloc _), Lib.hid (HB2.out.alloc HB2.out.size _)⟩
            case measure => simp [RowKit.intOf]; omega
          · obtain rfl : j = n0 := by omega
            go_wp2
            go_ret
            exact ⟨_, rfl, RecRow.of_owns HR.out (by omega) (RecCells.congr HD.out fun i _ => by rw [HT.out]) (fun _ _ => Nat.le_refl _), ⟨_, HR.out⟩, HB.out⟩

theorem tableOf_impl (win draw loss : Int) (lad : Value) (nl : Nat) (gl : Nat → Int) (agn : Bool) (n : Int) (v : Value) (m : Nat) (g : Nat → GameD) (R : Bool) (w : World) (hR : R = true ↔ tabP win draw loss nl gl n m g)
    (hlad : IntRow w lad nl gl) (hv : GameRow w v m g) :
    Calls Tryz.prog 39 #[.agg #[.int .i64 win, .int .i64 draw, .int .i64 loss, lad, .bool agn], .int .i64 n, v] w (RecMade 7 115 w (if R = true then n.toNat else 0) (fun i => (tabR win draw loss (selG true (fun _ => 0) 0) g m i).cells)) := by
  obtain ⟨la, lc, rfl, _, _⟩ := hlad.form
  have hb0 : Below w.heap.size w (w.alloc (.cells #[.int .i64 win, .int .i64 draw, .int .i64 loss, .slice la nl lc, .bool agn] 26)) := (Below.refl _ _).alloc (Nat.le_refl _) _
  have C := Lib.hid (whereAll_impl win draw loss (.slice la nl lc) nl gl agn n v m g R _ hR (hlad.below hb0 (Nat.le_refl _)) (hv.below hb0 (Nat.le_refl _)))
  have HB := Lib.hid hb0
  clear hR hlad hv hb0
  generalize (if R = true then n.toNat else 0) = N at *
  go_enter Tryz.func39, Tryz.ntmps39
  go_wp2_with fail
  refine C.out.mono ?_
  rintro e w4 ⟨vr, rfl, hrow, ⟨xs, ho⟩, b4⟩
  have HR4 := Lib.hid hrow
  have HO4 := Lib.hid (owns_mono ho HB.out.size)
  have HB4 := Lib.hid (HB.out.trans (b4.mono HB.out.size))
  clear hrow ho b4 C
  go_wp2
  go_ret
  exact ⟨_, rfl, HR4.out, ⟨xs, HO4.out⟩, HB4.out⟩

theorem tableAmong_impl (win draw loss : Int) (lad : Value) (nl : Nat) (gl : Nat → Int) (agn : Bool) (n : Int) (v : Value) (m : Nat) (g : Nat → GameD) (gv : Value) (ng : Nat) (gg : Nat → Int) (R : Bool) (w : World) (hR : R = true ↔ tabP win draw loss nl gl n m g)
    (hlad : IntRow w lad nl gl) (hv : GameRow w v m g) (hgv : IntRow w gv ng gg) :
    Calls Tryz.prog 76 #[.agg #[.int .i64 win, .int .i64 draw, .int .i64 loss, lad, .bool agn], .int .i64 n, v, gv] w (RecMade 7 115 w (if R = true then n.toNat else 0) (fun i => (tabR win draw loss (selG false gg ng) g m i).cells)) := by
  obtain ⟨la, lc, rfl, _, _⟩ := hlad.form
  obtain ⟨ga, gc, rfl, _, _⟩ := hgv.form
  have hb0 : Below w.heap.size w ((w.alloc (.cells #[.int .i64 win, .int .i64 draw, .int .i64 loss, .slice la nl lc, .bool agn] 26)).alloc (.cells #[.slice ga ng gc] 24)) := ((Below.refl _ _).alloc (Nat.le_refl _) _).alloc (by simp) _
  have C := Lib.hid (whereAmong_impl win draw loss (.slice la nl lc) nl gl agn n v m g (w.heap.size + 1) (.slice ga ng gc) ng gg R _ hR (hlad.below hb0 (Nat.le_refl _)) (hv.below hb0 (Nat.le_refl _)) (BoxN.made (Below.refl (((w.alloc (.cells #[.int .i64 win, .int .i64 draw, .int .i64 loss, .slice la nl lc, .bool agn] 26)).alloc (.cells #[.slice ga ng gc] 24))).heap.size _) (by simp)) (hgv.below hb0 (Nat.le_refl _)))
  have HB := Lib.hid hb0
  clear hR hlad hv hb0 hgv
  generalize (if R = true then n.toNat else 0) = N at *
  go_enter Tryz.func76, Tryz.ntmps76
  go_wp2_with fail
  refine C.out.mono ?_
  rintro e w4 ⟨vr, rfl, hrow, ⟨xs, ho⟩, b4⟩
  have HR4 := Lib.hid hrow
  have HO4 := Lib.hid (owns_mono ho HB.out.size)
  have HB4 := Lib.hid (HB.out.trans (b4.mono HB.out.size))
  clear hrow ho b4 C
  go_wp2
  go_ret
  exact ⟨_, rfl, HR4.out, ⟨xs, HO4.out⟩, HB4.out⟩

end Go.Proofs.YteciobkjfmddcaaGreatDoor
set_option linter.unusedVariables false
namespace Go.Proofs.YteciobkjfmddcaaGreatDoor
open Go.RowKit

theorem teamOkI_yes (t : TeamD) (w : World) (hs : t.nm.size ≤ maxLen) (hp : teamP t) :
    Calls Tryz.prog 64 #[.agg #[.string t.nm, .int .i64 t.club, .int .i64 t.seed]] w fun e w' => e = .returned (.bool true) ∧ Below w.heap.size w w' := by
  obtain ⟨nm, club, seed⟩ := t
  obtain ⟨h1, h2, h3⟩ := hp
  simp only at h1 h2 h3 hs ⊢
  have H1 := Lib.hid h1
  have g1 : decide ((0 : Int) ≤ club) = true := decide_eq_true (by omega)
  have g2 : decide (club < 6) = true := decide_eq_true (by omega)
  have g3 : decide ((1 : Int) ≤ seed) = true := decide_eq_true (by omega)
  have g4 : decide (seed ≤ 8) = true := decide_eq_true (by omega)
  clear h1 h2 h3
  go_enter Tryz.func64, Tryz.ntmps64
  go_wp2_with (go_at_call 80; refine (isName_impl _ _ hs).mono ?_; rintro e w' ⟨rfl, bi⟩; obtain ⟨k0, k1, k2⟩ := var3 bi; rw [H1.out])
  go_ret
  exact ⟨rfl, ((Below.refl _ _).alloc (Nat.le_refl _) _).trans (bi.mono (by simp))⟩
theorem teamOkI_no (t : TeamD) (w : World) (hs : t.nm.size ≤ maxLen) (hp : ¬ teamP t) :
    Calls Tryz.prog 64 #[.agg #[.string t.nm, .int .i64 t.club, .int .i64 t.seed]] w fun e w' => e = .returned (.bool false) ∧ Below w.heap.size w w' := by
  obtain ⟨nm, club, seed⟩ := t
  unfold teamP at hp
  simp only at hp hs ⊢
  by_cases h1 : nameB nm = true
  · have H1 := Lib.hid h1
    have hp : ¬ ((0 ≤ club ∧ club ≤ 5) ∧ 1 ≤ seed ∧ seed ≤ 8) := fun h => hp ⟨h1, h⟩
    clear h1
    by_cases h2 : 0 ≤ club
    · have g1 : decide ((0 : Int) ≤ club) = true := decide_eq_true h2
      by_cases h3 : club < 6
      · have g2 : decide (club < 6) = true := decide_eq_true h3
        by_cases h4 : 1 ≤ seed
        · have g3 : decide ((1 : Int) ≤ seed) = true := decide_eq_true h4
          have g4 : decide (seed ≤ 8) = false := decide_eq_false (by omega)
          clear h2 h3 h4 hp
          go_enter Tryz.func64, Tryz.ntmps64
          go_wp2_with (go_at_call 80; refine (isName_impl _ _ hs).mono ?_; rintro e w' ⟨rfl, bi⟩; obtain ⟨k0, k1, k2⟩ := var3 bi; rw [H1.out])
          go_ret
          exact ⟨rfl, ((Below.refl _ _).alloc (Nat.le_refl _) _).trans (bi.mono (by simp))⟩
        · have g3 : decide ((1 : Int) ≤ seed) = false := decide_eq_false h4
          clear h2 h3 h4 hp
          go_enter Tryz.func64, Tryz.ntmps64
          go_wp2_with (go_at_call 80; refine (isName_impl _ _ hs).mono ?_; rintro e w' ⟨rfl, bi⟩; obtain ⟨k0, k1, k2⟩ := var3 bi; rw [H1.out])
          go_ret
          exact ⟨rfl, ((Below.refl _ _).alloc (Nat.le_refl _) _).trans (bi.mono (by simp))⟩
      · have g2 : decide (club < 6) = false := decide_eq_false h3
        clear h2 h3 hp
        go_enter Tryz.func64, Tryz.ntmps64
        go_wp2_with (go_at_call 80; refine (isName_impl _ _ hs).mono ?_; rintro e w' ⟨rfl, bi⟩; obtain ⟨k0, k1, k2⟩ := var3 bi; rw [H1.out])
        go_ret
        exact ⟨rfl, ((Below.refl _ _).alloc (Nat.le_refl _) _).trans (bi.mono (by simp))⟩
    · have g1 : decide ((0 : Int) ≤ club) = false := decide_eq_false h2
      clear h2 hp
      go_enter Tryz.func64, Tryz.ntmps64
      go_wp2_with (go_at_call 80; refine (isName_impl _ _ hs).mono ?_; rintro e w' ⟨rfl, bi⟩; obtain ⟨k0, k1, k2⟩ := var3 bi; rw [H1.out])
      go_ret
      exact ⟨rfl, ((Below.refl _ _).alloc (Nat.le_refl _) _).trans (bi.mono (by simp))⟩
  · have h1' : nameB nm = false := by simpa using h1
    have H1 := Lib.hid h1'
    clear h1 h1' hp
    go_enter Tryz.func64, Tryz.ntmps64
    go_wp2_with (go_at_call 80; refine (isName_impl _ _ hs).mono ?_; rintro e w' ⟨rfl, bi⟩; obtain ⟨k0, k1, k2⟩ := var3 bi; rw [H1.out])
    go_ret
    exact ⟨rfl, ((Below.refl _ _).alloc (Nat.le_refl _) _).trans (bi.mono (by simp))⟩
end Go.Proofs.YteciobkjfmddcaaGreatDoor
set_option linter.unusedVariables false
namespace Go.Proofs.YteciobkjfmddcaaGreatDoor
open Go.RowKit Go.Maps

theorem plainElem_bool_inv {H : Type} {P : Program} {e : TypeId} (he : P.underlying e = some .bool) {v : Value} {z : DataW H × List MemPlace} (h : plainElem P e v = some z) : ∃ x, v = .bool x ∧ z = (.lit (.bool x), []) := by
  unfold plainElem at h
  rw [he] at h
  cases v <;> simp at h
  exact ⟨_, rfl, h.symm⟩

def BoolMap (P : Program) (w : World) (k e : TypeId) (b n : Nat) (L : List Lit) : Prop :=
  ∃ D : DataW Unit, w.ownsMap P k (plainElem P e) b n D ∧ ∀ kl, (kl ∈ L → D.atKey kl (.lit (.bool false)) = .lit (.bool true)) ∧ (kl ∉ L → D.atKey kl (.lit (.bool false)) = .lit (.bool false))
section
variable {P : Program} {w w' : World} {k e t : TypeId} {b n : Nat} {L : List Lit}
theorem BoolMap.made (w : World) (P : Program) (k e : TypeId) : BoolMap P (w.alloc (.map #[] 0)) k e w.heap.size 0 [] :=
  ⟨.map [], World.ownsMap_made w P k _, fun kl => ⟨fun h => by simp at h, fun _ => rfl⟩⟩
theorem BoolMap.grown {row : Option Nat} (h : BoolMap P w k e b n L) (hg : w.grownBy w' row) (hne : some b ≠ row) : BoolMap P w' k e b n L := by
  obtain ⟨D, ho, hD⟩ := h
  exact ⟨D, ho.kept hg hne, hD⟩
theorem BoolMap.below {B : Nat} (h : BoolMap P w k e b n L) (hb : Below B w w') (hB : w.heap.size ≤ B) : BoolMap P w' k e b n L := h.grown (below_grown hb hB) (by simp)
theorem BoolMap.alloc (h : BoolMap P w k e b n L) (o : Obj) : BoolMap P (w.alloc o) k e b n L := h.grown (World.grownBy_alloc w o none) (by simp)
theorem BoolMap.lt (h : BoolMap P w k e b n L) : b < w.heap.size := by
  obtain ⟨D, ho, _⟩ := h
  exact ho.lt
theorem BoolMap.run {key : Value} {kl : Lit} (h : BoolMap P w k e b n L) (K : Keyed P k) (ht : P.underlying t = some (.map k e)) (he : P.underlying e = some .bool) (hz : (zeroValue e).run P w = .ok (.bool false) w) (hkey : keyOf P k key = some kl) :
    (kl ∈ L → (Instr.lookup t (.map (some b)) key false).run P w = .ok (.bool true) w) ∧ (kl ∉ L → (Instr.lookup t (.map (some b)) key false).run P w = .ok (.bool false) w) := by
  obtain ⟨D, ho, hD⟩ := h
  obtain ⟨v, ps, hrun, hv⟩ := ho.lookup K ht hz (plainElem_bool he false) hkey
  obtain ⟨x, rfl, hx⟩ := plainElem_bool_inv he hv
  simp only [Prod.mk.injEq] at hx
  refine ⟨fun h => ?_, fun h => ?_⟩
  · have := (hD kl).1 h
    rw [hx.1] at this
    simp only [DataW.lit.injEq, Lit.bool.injEq] at this
    rw [hrun, this]
  · have := (hD kl).2 h
    rw [hx.1] at this
    simp only [DataW.lit.injEq, Lit.bool.injEq] at this
    rw [hrun, this]
theorem wpList_boolTrue {ops : Array Oper} {rest : List Oper} {o : Oper} {a : Act} {Q : Exit → Act → World → Prop} (hg : o.guard = none) (m x v : Operand) (t : TypeId) (hop : o.op = Op.mapUpdate t m x v)
    (k e : TypeId) (K : Keyed P k) (ht : P.underlying t = some (.map k e)) (he : P.underlying e = some .bool) (b n : Nat) (L : List Lit)
    (hm : a.eval m = .map (some b)) (hown : BoolMap P w k e b n L) (hn : n < maxLen) (key : Value) (kl : Lit) (hx : a.eval x = key) (hv : a.eval v = .bool true) (hkey : keyOf P k key = some kl) (hk : WideAt.IsKeyLit kl)
    (hK : ∀ w', BoolMap P w' k e b (n + 1) (kl :: L) → w.grownBy w' (some b) → wpList P ops Q rest (a.put o.dst undef) w') :
    wpList P ops Q (o :: rest) a w := by
  obtain ⟨D, ho, hD⟩ := hown
  refine wpList_mapUpdate_own w hg m x v t hop k e K ht (plainElem P e) b n D hm ho hn key (.bool true) kl hx hv hkey (.lit (.bool true)) [] (plainElem_bool he true) fun w' h1 h2 => ?_
  refine hK w' ⟨_, h1, fun kl' => ?_⟩ h2
  by_cases hkk : kl' = kl
  · subst hkk
    exact ⟨fun _ => atKey_put_same ho.isMap hk _ _, fun h => absurd (List.mem_cons_self ..) h⟩
  · rw [atKey_put_other hkk]
    refine ⟨fun h => (hD kl').1 ?_, fun h => (hD kl').2 ?_⟩
    · rcases List.mem_cons.1 h with h | h
      · exact absurd h hkk
      · exact h
    · exact fun h' => h (List.mem_cons_of_mem _ h')
end

def CountMap (P : Program) (w : World) (k e : TypeId) (b n : Nat) (C : Lit → Nat) : Prop :=
  ∃ D : DataW Unit, w.ownsMap P k (plainElem P e) b n D ∧ (∀ kl, Maps.has D kl = true ↔ 0 < C kl) ∧ ∀ kl, D.atKey kl (.lit (.int .i64 0)) = .lit (.int .i64 (C kl))
open Classical in
noncomputable def oneMore (C : Lit → Nat) (kl : Lit) : Lit → Nat := fun z => C z + if z = kl then 1 else 0
def CountRange (P : Program) (w : World) (k e : TypeId) (b r n : Nat) (C : Lit → Nat) (left : Lit → Bool) (cnt : Nat) : Prop :=
  ∃ D : DataW Unit, w.ranges P k (plainElem P e) b r n D left cnt ∧ ∀ kl, D.atKey kl (.lit (.int .i64 0)) = .lit (.int .i64 (C kl))
section
variable {P : Program} {w w' : World} {k e t : TypeId} {b n r cnt : Nat} {C : Lit → Nat} {left : Lit → Bool}
theorem CountMap.made (w : World) (P : Program) (k e : TypeId) : CountMap P (w.alloc (.map #[] 0)) k e w.heap.size 0 (fun _ => 0) :=
  ⟨.map [], World.ownsMap_made w P k _, fun kl => ⟨fun h => by simp [Maps.has_eq] at h, fun h => by simp at h⟩, fun kl => rfl⟩
theorem CountMap.grown {row : Option Nat} (h : CountMap P w k e b n C) (hg : w.grownBy w' row) (hne : some b ≠ row) : CountMap P w' k e b n C := by
  obtain ⟨D, ho, hD⟩ := h
  exact ⟨D, ho.kept hg hne, hD⟩
theorem CountMap.below {B : Nat} (h : CountMap P w k e b n C) (hb : Below B w w') (hB : w.heap.size ≤ B) : CountMap P w' k e b n C := h.grown (below_grown hb hB) (by simp)
theorem CountMap.alloc (h : CountMap P w k e b n C) (o : Obj) : CountMap P (w.alloc o) k e b n C := h.grown (World.grownBy_alloc w o none) (by simp)
theorem CountMap.lt (h : CountMap P w k e b n C) : b < w.heap.size := by
  obtain ⟨D, ho, _⟩ := h
  exact ho.lt
theorem wpList_countLook {ops : Array Oper} {rest : List Oper} {o : Oper} {a : Act} {Q : Exit → Act → World → Prop} (hg : o.guard = none) (m x : Operand) (t : TypeId) (hop : o.op = Op.lookup t m x false)
    (k e : TypeId) (K : Keyed P k) (ht : P.underlying t = some (.map k e)) (he : P.underlying e = some (.int .i64)) (hz : (zeroValue e).run P w = .ok (.int .i64 0) w) (b n : Nat) (C : Lit → Nat)
    (hm : a.eval m = .map (some b)) (hown : CountMap P w k e b n C) (key : Value) (kl : Lit) (hx : a.eval x = key) (hkey : keyOf P k key = some kl)
    (hK : wpList P ops Q rest (a.put o.dst (.int .i64 (C kl))) w) :
    wpList P ops Q (o :: rest) a w := by
  obtain ⟨D, ho, _, hD⟩ := hown
  refine wpList_lookup_own_int w hg m x t hop k e .i64 K ht he hz b n D hm ho key kl hx hkey fun c hc _ => ?_
  rw [hD kl] at hc
  simp only [DataW.lit.injEq, Lit.int.injEq, true_and] at hc
  rw [← hc]
  exact hK
theorem wpList_countMore {ops : Array Oper} {rest : List Oper} {o : Oper} {a : Act} {Q : Exit → Act → World → Prop} (hg : o.guard = none) (m x v : Operand) (t : TypeId) (hop : o.op = Op.mapUpdate t m x v)
    (k e : TypeId) (K : Keyed P k) (ht : P.underlying t = some (.map k e)) (he : P.underlying e = some (.int .i64)) (b n : Nat) (C : Lit → Nat)
    (hm : a.eval m = .map (some b)) (hown : CountMap P w k e b n C) (hn : n < maxLen) (key : Value) (kl : Lit) (hx : a.eval x = key) (hv : a.eval v = .int .i64 ((C kl : Int) + 1)) (hsm : C kl < 1000000000) (hkey : keyOf P k key = some kl) (hk : WideAt.IsKeyLit kl)
    (hK : ∀ w', CountMap P w' k e b (n + 1) (oneMore C kl) → w.grownBy w' (some b) → wpList P ops Q rest (a.put o.dst undef) w') :
    wpList P ops Q (o :: rest) a w := by
  obtain ⟨D, ho, hh, hD⟩ := hown
  refine wpList_mapUpdate_own w hg m x v t hop k e K ht (plainElem P e) b n D hm ho hn key _ kl hx hv hkey (.lit (.int .i64 ((C kl : Int) + 1))) [] (plainElem_int he (WalkArith.wf_i64 (by omega))) fun w' h1 h2 => ?_
  refine hK w' ⟨_, h1, fun kl' => ?_, fun kl' => ?_⟩ h2
  · by_cases hkk : kl' = kl
    · subst hkk
      rw [Maps.has_put_same ho.isMap hk]
      simp [oneMore]
    · rw [Maps.has_put_other hkk, hh kl']
      simp [oneMore, hkk]
  · by_cases hkk : kl' = kl
    · subst hkk
      rw [atKey_put_same ho.isMap hk]
      simp [oneMore]
    · rw [atKey_put_other hkk, hD kl']
      simp [oneMore, hkk]
theorem wpList_countRange {ops : Array Oper} {rest : List Oper} {o : Oper} {a : Act} {Q : Exit → Act → World → Prop} (hg : o.guard = none) (m : Operand) (t : TypeId) (hop : o.op = Op.range t m) (k e : TypeId) (K : Keyed P k) (ht : P.underlying t = some (.map k e)) (b n : Nat) (C : Lit → Nat)
    (hm : a.eval m = .map (some b)) (hown : CountMap P w k e b n C)
    (hK : ∀ w' left cnt, (∀ kl, left kl = true ↔ 0 < C kl) → CountRange P w' k e b w.heap.size n C left cnt → w.grownBy w' none → wpList P ops Q rest (a.put o.dst (.pointer (some ⟨w.heap.size, 0, none⟩))) w') :
    wpList P ops Q (o :: rest) a w := by
  obtain ⟨D, ho, hh, hD⟩ := hown
  exact wpList_range_own w hg m t hop k e K ht (plainElem P e) b n D hm ho fun w' h1 h2 _ => hK w' _ _ hh ⟨D, h1, hD⟩ h2
theorem wpList_countNext {ops : Array Oper} {rest : List Oper} {o : Oper} {a : Act} {Q : Exit → Act → World → Prop} (hg : o.guard = none) (it : Operand) (hop : o.op = Op.next it false) (k e : TypeId) (K : Keyed P k) (hk : P.underlying k = some (.int .i64)) (he : P.underlying e = some (.int .i64))
    (b r n : Nat) (C : Lit → Nat) (left : Lit → Bool) (cnt : Nat) (hit : a.eval it = .pointer (some ⟨r, 0, none⟩)) (h : CountRange P w k e b r n C left cnt)
    (hDone : (∀ kl, left kl = false) → wpList P ops Q rest (a.put o.dst (.tuple #[.bool false])) w)
    (hMore : ∀ (x : Int) (w' : World) (cnt' : Nat), left (.int .i64 x) = true → CountRange P w' k e b r n C (fun z => left z && !z.sameKey (.int .i64 x)) cnt' → cnt' < cnt →
      w.grownBy w' (some r) → (Instr.entry (.pointer (some ⟨r, 0, none⟩))).run P w' = .ok (.tuple #[.int .i64 x, .int .i64 (C (.int .i64 x))]) w' → wpList P ops Q rest (a.put o.dst (.tuple #[.bool true, .int .i64 x, .int .i64 (C (.int .i64 x))])) w') :
    wpList P ops Q (o :: rest) a w := by
  obtain ⟨D, ho, hD⟩ := h
  refine wpList_next_ranges_ii w hg it hop k e .i64 .i64 K hk he b r n D left cnt hit ho (fun _ h => hDone h) fun x c w' cnt' _ _ hl hat hrg hlt hgr _ hen => ?_
  have hc : c = C (.int .i64 x) := by
    have := (hat (.lit (.int .i64 0))).symm.trans (hD _)
    simpa using this
  subst hc
  exact hMore x w' cnt' hl ⟨D, hrg, hD⟩ hlt hgr hen
theorem CountRange.left_eq (h : CountRange P w k e b r n C left cnt) : w.rangeLeft b r = cnt := by
  obtain ⟨D, ho, _⟩ := h
  exact ho.left_eq
end
def leftN (left : Lit → Bool) : Nat → Nat
  | 0 => 0
  | c + 1 => leftN left c + if left (.int .i64 (c : Int)) = true then 1 else 0
theorem leftN_congr {l l' : Lit → Bool} : ∀ c : Nat, (∀ j : Nat, j < c → l (.int .i64 (j : Int)) = l' (.int .i64 (j : Int))) → leftN l c = leftN l' c
  | 0, _ => rfl
  | c + 1, h => by
    unfold leftN
    rw [leftN_congr c fun j hj => h j (by omega), h c (by omega)]
theorem leftN_zero {l : Lit → Bool} (h : ∀ kl, l kl = false) : ∀ c, leftN l c = 0
  | 0 => rfl
  | c + 1 => by unfold leftN; rw [leftN_zero h c, h]; rfl
theorem same_int (x y : Int) : (Lit.int .i64 x).sameKey (.int .i64 y) = decide (x = y) := by
  have := WideAt.sameKey_iff (a := .int .i64 x) (b := .int .i64 y) trivial
  by_cases h : x = y
  · subst h; simpa using this
  · rw [decide_eq_false h]
    cases hs : (Lit.int .i64 x).sameKey (.int .i64 y)
    · rfl
    · have := this.1 hs
      simp at this
      exact absurd this h
theorem leftN_strike {l : Lit → Bool} {x : Nat} (hl : l (.int .i64 (x : Int)) = true) : ∀ c, x < c → leftN (fun z => l z && !z.sameKey (.int .i64 (x : Int))) c + 1 = leftN l c
  | 0, h => absurd h (by omega)
  | c + 1, h => by
    by_cases hx : x = c
    · subst hx
      have e1 : leftN (fun z => l z && !z.sameKey (.int .i64 (x : Int))) x = leftN l x := leftN_congr x fun j hj => by
        simp only [same_int]
        rw [decide_eq_false (by omega)]; simp
      unfold leftN
      rw [e1]
      simp [same_int, hl]
    · have := leftN_strike hl c (by omega)
      unfold leftN
      simp only [same_int]
      rw [decide_eq_false (by omega)]
      simp
      omega
end Go.Proofs.YteciobkjfmddcaaGreatDoor
