/-
  Tables: the model's l06Among, TableOf, TableAmong.
-/
import Derived.Test.YtoingkchjiipgaaTables3
import Derived.Test.YtoingkchjiipgaaRulesOk
set_option linter.unusedVariables false
namespace Go.Proofs.Ytoingkchjiipgaa
open Go.RowKit

/-- x is among the first n: as a Boolean -/
def hasB (g : Nat → Int) (n : Nat) (x : Int) : Bool := (List.range n).any fun j => g j == x
theorem hasB_iff {g : Nat → Int} {n : Nat} {x : Int} : hasB g n x = true ↔ hasP g x n := by
  unfold hasB hasP
  simp
theorem l02Has_any (v : Value) (n : Nat) (g : Nat → Int) (x : Int) (w : World) (h : IntRow w v n g) :
    Calls Try.prog 77 #[v, .int .i64 x] w fun e w' => e = .returned (.bool (hasB g n x)) ∧ w = w' := by
  cases hb : hasB g n x with
  | true => exact l02Has_yes v n g x w h (hasB_iff.1 hb)
  | false => exact l02Has_no v n g x w h fun hp => by rw [hasB_iff.2 hp] at hb; cases hb
/-- the games that a table is made of -/
def selG (all : Bool) (gg : Nat → Int) (ng : Nat) (x : GameD) : Bool := all || (hasB gg ng x.home && hasB gg ng x.away)
/-- the table behind the first k games -/
def tabR (win draw loss : Int) (sel : GameD → Bool) (g : Nat → GameD) : Nat → Nat → RowD
  | 0 => fun _ => zeroR
  | k + 1 => if sel (g k) = true then addG win draw loss (tabR win draw loss sel g k) (g k) else tabR win draw loss sel g k
theorem made_rows (n : Nat) : RecCells 7 n (madeCells (Value.agg #[.int .i64 0, .int .i64 0, .int .i64 0, .int .i64 0, .int .i64 0, .int .i64 0, .int .i64 0]).cells (n * 7)).toList (fun _ => zeroR.cells) := by
  intro i hi j u hu
  have hj : j < 7 := by have := (List.getElem?_eq_some_iff.1 hu).1; simpa [RowD.cells] using this
  have hu0 : u = .int .i64 0 := by
    have : j = 0 ∨ j = 1 ∨ j = 2 ∨ j = 3 ∨ j = 4 ∨ j = 5 ∨ j = 6 := by omega
    rcases this with rfl | rfl | rfl | rfl | rfl | rfl | rfl <;> (simp [RowD.cells, zeroR] at hu; exact hu.symm)
  subst hu0
  have hlt : i * 7 + j < n * 7 := by omega
  have hz : ∀ t, t < 7 → (#[Value.int .i64 0, .int .i64 0, .int .i64 0, .int .i64 0, .int .i64 0, .int .i64 0, .int .i64 0])[t]! = Value.int .i64 0 := by
    intro t ht
    have : t = 0 ∨ t = 1 ∨ t = 2 ∨ t = 3 ∨ t = 4 ∨ t = 5 ∨ t = 6 := by omega
    rcases this with rfl | rfl | rfl | rfl | rfl | rfl | rfl <;> rfl
  have hc : (Value.agg #[.int .i64 0, .int .i64 0, .int .i64 0, .int .i64 0, .int .i64 0, .int .i64 0, .int .i64 0]).cells = #[Value.int .i64 0, .int .i64 0, .int .i64 0, .int .i64 0, .int .i64 0, .int .i64 0, .int .i64 0] := rfl
  rw [hc, Array.getElem?_toList]
  unfold madeCells
  rw [Array.getElem?_map, Array.getElem?_range, if_pos hlt]
  simp only [Option.map_some]
  exact congrArg some (hz _ (Nat.mod_lt _ (by decide)))

theorem boolEx (p : Prop) : ∃ R : Bool, R = true ↔ p := by
  by_cases h : p
  · exact ⟨true, fun _ => h, fun _ => rfl⟩
  · exact ⟨false, (fun e => by cases e), fun e => absurd e h⟩

set_option maxHeartbeats 2000000 in
theorem l06Among_spec (win draw loss : Int) (lad : Value) (agn : Bool) (n m : Nat) (v : Value) (g : Nat → GameD) (gv : Value) (ng : Nat) (gg : Nat → Int) (all : Bool) (w : World) (hlad : ∃ a l c, lad = .slice a l c) (hn : n ≤ 8)
    (hv : GameRow w v m g) (hgv : IntRow w gv ng gg) (hsea : ∀ i, i < m → gameP n (g i)) :
    Calls Try.prog 61 #[.agg #[.int .i64 win, .int .i64 draw, .int .i64 loss, lad, .bool agn], .int .i64 n, v, gv, .bool all] w fun e w' => ∃ vr xs, e = .returned vr ∧ w'.ownsRow w.heap.size 39 7 vr n xs ∧
      RecCells 7 n xs (fun i => (tabR win draw loss (selG all gg ng) g m i).cells) ∧ Below w.heap.size w w' := by
  obtain ⟨la, ll, lc, rfl⟩ := hlad
  obtain ⟨i0, hi, hz0, hz1, hz2⟩ := info_parts Try.infoRow
  obtain ⟨aa, cap, rfl, hm, hc⟩ := hv.form
  have HV := Lib.hid hc
  have HG := Lib.hid hgv
  have HS := Lib.hid hsea
  clear hc hv hgv hsea
  have hu0 : Hid (BoxN (w.alloc (.cells #[.int .i64 win, .int .i64 draw, .int .i64 loss, .slice la ll lc, .bool agn] 26)) w.heap.size [.int .i64 win, .int .i64 draw, .int .i64 loss, .slice la ll lc, .bool agn]) := BoxN.made (Below.refl _ _) rfl
  have hb0 : Hid (Below w.heap.size w (w.alloc (.cells #[.int .i64 win, .int .i64 draw, .int .i64 loss, .slice la ll lc, .bool agn] 26))) := (Below.refl _ _).alloc (Nat.le_refl _) _
  go_enter Try.func61, Try.ntmps61
  go_wp2_with (at_make; refine wpList_make_full _ rfl _ _ 31 rfl w.heap.size 39 i0 (.agg #[.int .i64 0, .int .i64 0, .int .i64 0, .int .i64 0, .int .i64 0, .int .i64 0, .int .i64 0]) 7 Try.underlying31 hi hz0 hz1 .i64 .i64 n n n rfl rfl rfl rfl (by rw [hz2]; omega) (by unfold maxLen; omega) (by simp) ?_; intro w1 hown hg1)
  have hg1' : Below (w.heap.size + 1) (w.alloc (.cells #[.int .i64 win, .int .i64 draw, .int .i64 loss, .slice la ll lc, .bool agn] 26)) w1 := (Below.refl _ _).grown hg1 (by simp) (fun k hk => by cases hk)
  have HU := Lib.hid (BoxN.below hu0.out (hg1'.mono (by simp)))
  have HB := Lib.hid (hb0.out.trans (hg1'.mono (by simp)))
  have HO := Lib.hid hown
  have HC := Lib.hid (made_rows n)
  have es : (w.alloc (.cells #[.int .i64 win, .int .i64 draw, .int .i64 loss, .slice la ll lc, .bool agn] 26)).heap.size = w.heap.size + 1 := by simp
  rw [es] at HO
  clear hg1 hg1' hu0 hb0 hown es
  go_wp2
  go_loopw [18] (fun i wr => ∃ (k : Nat) (xs : List Value), k ≤ m ∧ i = .int .i64 k ∧ Hid (wr.ownsRow w.heap.size 39 7 (.slice (some ⟨w.heap.size + 1, 0, none⟩) n n) n xs) ∧ Hid (RecCells 7 n xs (fun i => (tabR win draw loss (selG all gg ng) g k i).cells)) ∧
      Hid (BoxN wr w.heap.size [.int .i64 win, .int .i64 draw, .int .i64 loss, .slice la ll lc, .bool agn]) ∧ Hid (Below w.heap.size w wr)) (fun i _ => m - (intOf i).toNat)
  case atStart => exact ⟨0, _, Nat.zero_le _, rfl, HO, HC, HU, HB⟩
  case round =>
    clear HO HC HU HB
    obtain ⟨k, xs, hk, rfl, HO, HC, HU, HB⟩ := hrel
    by_cases hlt : k < m
    · obtain ⟨b, off, rfl, hcap, hc⟩ := HV.out (by omega)
      have hq := (hc k hlt).belowB HB.out (hc k hlt).1
      have hgp := HS.out k hlt
      have HY : Hid (selG all gg ng (g k) = true → tabR win draw loss (selG all gg ng) g (k + 1) = addG win draw loss (tabR win draw loss (selG all gg ng) g k) (g k)) := fun h => if_pos h
      have HN : Hid (selG all gg ng (g k) = false → tabR win draw loss (selG all gg ng) g (k + 1) = tabR win draw loss (selG all gg ng) g k) := fun h => if_neg (by rw [h]; simp)
      have HSel : Hid (selG all gg ng (g k) = (all || (hasB gg ng (g k).home && hasB gg ng (g k).away))) := rfl
      rw [HSel.out] at HY HN
      generalize g k = x at *
      obtain ⟨x0, x1, x2, x3, x4⟩ := x
      obtain ⟨⟨n1, n2⟩, ⟨q1, q2⟩, ⟨q3, q4⟩, _⟩ := hgp
      simp only at q1 q2 q3 q4 HY HN
      obtain ⟨p, rfl⟩ : ∃ p : Nat, x0 = p := ⟨x0.toNat, by omega⟩
      obtain ⟨q, rfl⟩ : ∃ q : Nat, x1 = q := ⟨x1.toNat, by omega⟩
      have hpn : p < n := by omega
      have hqn : q < n := by omega
      obtain ⟨c0, c1, c2, c3, c4⟩ := game_cells hq
      simp only at c0 c1 c2 c3 c4
      have hsz := HB.out.size
      have hb1 := (Below.refl wr.heap.size wr).alloc (Nat.le_refl _) (.cells #[.int .i64 (p : Int), .int .i64 (q : Int), .int .i64 x2, .int .i64 x3, .int .i64 x4] 36)
      have HB1 := Lib.hid (HB.out.trans (hb1.mono hsz))
      have HO1 := Lib.hid (owns_below HO.out hb1 (Nat.le_refl _))
      have HU1 := Lib.hid (BoxN.below HU.out hb1)
      have HG1 := Lib.hid (HG.out.below HB1.out (Nat.le_refl _))
      have C := Lib.hid (fun t => l02Has_any gv ng gg t _ HG1.out)
      have hul := HU.out.1
      have v0 := HU.out.2 0 _ rfl
      have v1 := HU.out.2 1 _ rfl
      have v2 := HU.out.2 2 _ rfl
      have v3 := HU.out.2 3 _ rfl
      have v4 := HU.out.2 4 _ rfl
      clear hc HV hq HSel hb1 HO HU HB q1 q2 q3 q4 n1 n2
      cases all with
      | true =>
        simp only [Bool.true_or] at HY HN
        have HT := Lib.hid (HY.out (by first | rfl | trivial))
        clear HY HN
        go_wp2_with fail
        refine (l06Add_spec win draw loss (.slice la ll lc) agn p q x2 x3 x4 w.heap.size (w.heap.size + 1) n n xs _ _ ⟨_, _, _, rfl⟩ hpn hqn HO1.out HC.out).mono ?_
        rintro e w4 ⟨rfl, xs', ho4, hc4, t4⟩
        have HO4 := Lib.hid ho4
        have HC4 := Lib.hid hc4
        have HU4 := Lib.hid (BoxN.touch HU1.out t4 (.inl (Nat.lt_succ_self _)))
        have HB4 := Lib.hid (HB1.out.trans (t4.below (Nat.le_succ _) HB1.out.size))
        clear ho4 hc4 t4 HO1 HC HU1 HB1 C c0 c1 c2 c3 c4
        go_wp2
        go_roundw
        case rel => exact ⟨k + 1, xs', by omega, by go_num, HO4.out, by rw [HT.out]; exact HC4.out, HU4.out, HB4.out⟩
        case measure => simp [intOf]; omega
      | false =>
        simp only [Bool.false_or] at HY HN
        generalize hbp : hasB gg ng (p : Int) = bp at *
        generalize hbq : hasB gg ng (q : Int) = bq at *
        have C1 := Lib.hid (C.out (p : Int))
        have C2 := Lib.hid (C.out (q : Int))
        rw [hbp] at C1
        rw [hbq] at C2
        clear hbp hbq
        cases bp with
        | false =>
          simp only [Bool.false_and] at HY HN
          have HT := Lib.hid (HN.out (by first | rfl | trivial))
          clear HY HN
          go_wp2_with fail
          refine C1.out.mono ?_
          rintro e w3 ⟨rfl, rfl⟩
          clear C1 C2 C
          go_wp2
          go_roundw
          case rel => exact ⟨k + 1, xs, by omega, by go_num, HO1.out, by rw [HT.out]; exact HC.out, HU1.out, HB1.out⟩
          case measure => simp [intOf]; omega
        | true =>
          simp only [Bool.true_and] at HY HN
          cases bq with
          | false =>
            have HT := Lib.hid (HN.out (by first | rfl | trivial))
            clear HY HN
            go_wp2_with fail
            refine C1.out.mono ?_
            rintro e w3 ⟨rfl, rfl⟩
            go_wp2_with fail
            refine C2.out.mono ?_
            rintro e w3 ⟨rfl, rfl⟩
            clear C1 C2 C
            go_wp2
            go_roundw
            case rel => exact ⟨k + 1, xs, by omega, by go_num, HO1.out, by rw [HT.out]; exact HC.out, HU1.out, HB1.out⟩
            case measure => simp [intOf]; omega
          | true =>
            have HT := Lib.hid (HY.out (by first | rfl | trivial))
            clear HY HN
            go_wp2_with fail
            refine C1.out.mono ?_
            rintro e w3 ⟨rfl, rfl⟩
            go_wp2_with fail
            refine C2.out.mono ?_
            rintro e w3 ⟨rfl, rfl⟩
            go_wp2_with fail
            refine (l06Add_spec win draw loss (.slice la ll lc) agn p q x2 x3 x4 w.heap.size (w.heap.size + 1) n n xs _ _ ⟨_, _, _, rfl⟩ hpn hqn HO1.out HC.out).mono ?_
            rintro e w4 ⟨rfl, xs', ho4, hc4, t4⟩
            have HO4 := Lib.hid ho4
            have HC4 := Lib.hid hc4
            have HU4 := Lib.hid (BoxN.touch HU1.out t4 (.inl (Nat.lt_succ_self _)))
            have HB4 := Lib.hid (HB1.out.trans (t4.below (Nat.le_succ _) HB1.out.size))
            clear ho4 hc4 t4 HO1 HC HU1 HB1 C c0 c1 c2 c3 c4
            go_wp2
            go_roundw
            case rel => exact ⟨k + 1, xs', by omega, by go_num, HO4.out, by rw [HT.out]; exact HC4.out, HU4.out, HB4.out⟩
            case measure => simp [intOf]; omega
    · obtain rfl : k = m := by omega
      go_wp2
      go_ret
      exact ⟨_, xs, rfl, HO.out, HC.out, HB.out⟩
/-- a table is asked of valid rules, a field's size and a valid season -/
def tabP (win draw loss : Int) (nl : Nat) (gl : Nat → Int) (n : Int) (m : Nat) (g : Nat → GameD) : Prop := rulesP win draw loss nl gl ∧ (2 ≤ n ∧ n ≤ 8) ∧ seasonP n m g
theorem made_none {w w' : World} {k : Nat} {T : TypeId} {g : Nat → List Value} (hb : Below w.heap.size w w') : RecMade k T w 0 g (.returned (.slice none 0 0)) w' :=
  ⟨_, rfl, .inl ⟨_, _, rfl, rfl⟩, ⟨_, World.ownsRow_nil _ _ _ _⟩, hb⟩

set_option maxHeartbeats 1000000 in
theorem tableOf_spec (win draw loss : Int) (lad : Value) (nl : Nat) (gl : Nat → Int) (agn : Bool) (n : Int) (v : Value) (m : Nat) (g : Nat → GameD) (R : Bool) (w : World) (hR : R = true ↔ tabP win draw loss nl gl n m g)
    (hlad : IntRow w lad nl gl) (hv : GameRow w v m g) :
    Calls Try.prog 22 #[.agg #[.int .i64 win, .int .i64 draw, .int .i64 loss, lad, .bool agn], .int .i64 n, v] w (RecMade 7 39 w (if R = true then n.toNat else 0) (fun i => (tabR win draw loss (selG true (fun _ => 0) 0) g m i).cells)) := by
  obtain ⟨r1, hr1⟩ := boolEx (rulesP win draw loss nl gl)
  obtain ⟨r3, hr3⟩ := boolEx (seasonP n m g)
  have C1 := Lib.hid (fun w1 h1 => rulesOk_spec win draw loss agn r1 lad nl gl w1 hr1 h1)
  have C3 := Lib.hid (fun w1 h1 => seasonOk_spec n v m g r3 w1 hr3 h1)
  have hall : R = true ↔ (r1 = true ∧ (2 ≤ n ∧ n ≤ 8) ∧ r3 = true) := by rw [hR, hr1, hr3]; exact Iff.rfl
  have HN := Lib.hid (boolF hall)
  have HY := Lib.hid (boolT hall)
  have HSea : Hid (r3 = true → ∀ i, i < m → gameP n (g i)) := fun h i hi => ((hr3.1 h).2 i hi).1
  have HV := Lib.hid hv
  obtain ⟨la, lc, rfl, _, _⟩ := hlad.form
  have HL := Lib.hid (hlad.below ((Below.refl w.heap.size w).alloc (Nat.le_refl _) (.cells #[.int .i64 win, .int .i64 draw, .int .i64 loss, .slice la nl lc, .bool agn] 26)) (Nat.le_refl _))
  clear hR hr1 hr3 hall hlad hv
  cases r1 with
  | false =>
    obtain rfl := HN.out fun h => by have := h.1; cases this
    clear HN HY HSea
    go_enter Try.func22, Try.ntmps22
    go_wp2_with fail
    refine (C1.out _ HL.out).mono ?_
    rintro e w1 ⟨rfl, b1⟩
    have HB := Lib.hid (below_prev b1)
    clear b1
    go_wp2
    go_ret
    exact made_none HB.out
  | true =>
  by_cases h2 : 2 ≤ n ∧ n ≤ 8
  case neg =>
    obtain rfl := HN.out fun h => h2 h.2.1
    clear HN HY HSea
    go_enter Try.func22, Try.ntmps22
    go_wp2_with fail
    refine (C1.out _ HL.out).mono ?_
    rintro e w1 ⟨rfl, b1⟩
    have HB := Lib.hid (below_prev b1)
    clear b1
    go_wp2_with (go_at_call 59; refine (l01In_no _ _ _ _ h2).mono ?_; rintro e w2 ⟨rfl, rfl⟩)
    go_ret
    exact made_none HB.out
  cases r3 with
  | false =>
    obtain rfl := HN.out fun h => by have := h.2.2; cases this
    clear HN HY HSea
    go_enter Try.func22, Try.ntmps22
    go_wp2_with fail
    refine (C1.out _ HL.out).mono ?_
    rintro e w1 ⟨rfl, b1⟩
    have BU := BoxN.made b1 (B := w.heap.size) rfl
    have HB := Lib.hid (below_prev b1)
    have HBU := Lib.hid BU
    have HV1 := Lib.hid (HV.out.below HB.out (Nat.le_refl _))
    clear b1 BU
    go_wp2_with fail
    refine (l01In_yes _ _ _ _ h2).mono ?_
    rintro e w2 ⟨rfl, rfl⟩
    go_wp2_with fail
    refine (C3.out _ HV1.out).mono ?_
    rintro e w2 ⟨rfl, b2⟩
    have HB2 := Lib.hid (HB.out.trans (b2.mono HB.out.size))
    clear b2
    go_wp2
    go_ret
    exact made_none HB2.out
  | true =>
    obtain rfl := HY.out ⟨rfl, h2, rfl⟩
    have HS := Lib.hid (HSea.out rfl)
    obtain ⟨n0, rfl⟩ : ∃ n0 : Nat, n = n0 := ⟨n.toNat, by omega⟩
    clear HN HY HSea
    rw [if_pos rfl]
    simp only [Int.toNat_natCast]
    go_enter Try.func22, Try.ntmps22
    go_wp2_with fail
    refine (C1.out _ HL.out).mono ?_
    rintro e w1 ⟨rfl, b1⟩
    have BU := BoxN.made b1 (B := w.heap.size) rfl
    have HB := Lib.hid (below_prev b1)
    have HBU := Lib.hid BU
    have HV1 := Lib.hid (HV.out.below HB.out (Nat.le_refl _))
    clear b1 BU
    go_wp2_with fail
    refine (l01In_yes _ _ _ _ h2).mono ?_
    rintro e w2 ⟨rfl, rfl⟩
    go_wp2_with fail
    refine (C3.out _ HV1.out).mono ?_
    rintro e w2 ⟨rfl, b2⟩
    have HB2 := Lib.hid (HB.out.trans (b2.mono HB.out.size))
    have HBU2 := Lib.hid (BoxN.below HBU.out b2)
    have HV2 := Lib.hid (HV.out.below HB2.out (Nat.le_refl _))
    have v0 := HBU2.out.2 0 _ rfl
    have v1 := HBU2.out.2 1 _ rfl
    have v2 := HBU2.out.2 2 _ rfl
    have v3 := HBU2.out.2 3 _ rfl
    have v4 := HBU2.out.2 4 _ rfl
    have hl := HBU2.out.1
    clear b2 HBU HV1
    go_wp2_with fail
    refine (l06Among_spec win draw loss (.slice la nl lc) agn n0 m v g (.slice none 0 0) 0 (fun _ => 0) true  _ ⟨_, _, _, rfl⟩ (by omega) HV2.out (.inl ⟨_, _, rfl, rfl⟩) HS.out).mono ?_
    rintro e w4 ⟨vr, xs, rfl, ho4, hc4, b4⟩
    have HB4 := Lib.hid (HB2.out.trans (b4.mono HB2.out.size))
    have HO4 := Lib.hid (owns_mono ho4 HB2.out.size)
    have HC4 := Lib.hid hc4
    clear ho4 hc4 b4 v0 v1 v2 v3 v4 hl
    go_wp2
    go_ret
    exact ⟨_, rfl, RecRow.of_owns HO4.out (by omega) HC4.out (fun _ _ => Nat.le_refl _), ⟨_, HO4.out⟩, HB4.out⟩
set_option maxHeartbeats 1000000 in
theorem tableAmong_spec (win draw loss : Int) (lad : Value) (nl : Nat) (gl : Nat → Int) (agn : Bool) (n : Int) (v : Value) (m : Nat) (g : Nat → GameD) (gv : Value) (ng : Nat) (gg : Nat → Int) (R : Bool) (w : World) (hR : R = true ↔ tabP win draw loss nl gl n m g)
    (hlad : IntRow w lad nl gl) (hv : GameRow w v m g) (hgv : IntRow w gv ng gg) :
    Calls Try.prog 32 #[.agg #[.int .i64 win, .int .i64 draw, .int .i64 loss, lad, .bool agn], .int .i64 n, v, gv] w (RecMade 7 39 w (if R = true then n.toNat else 0) (fun i => (tabR win draw loss (selG false gg ng) g m i).cells)) := by
  obtain ⟨r1, hr1⟩ := boolEx (rulesP win draw loss nl gl)
  obtain ⟨r3, hr3⟩ := boolEx (seasonP n m g)
  have C1 := Lib.hid (fun w1 h1 => rulesOk_spec win draw loss agn r1 lad nl gl w1 hr1 h1)
  have C3 := Lib.hid (fun w1 h1 => seasonOk_spec n v m g r3 w1 hr3 h1)
  have hall : R = true ↔ (r1 = true ∧ (2 ≤ n ∧ n ≤ 8) ∧ r3 = true) := by rw [hR, hr1, hr3]; exact Iff.rfl
  have HN := Lib.hid (boolF hall)
  have HY := Lib.hid (boolT hall)
  have HSea : Hid (r3 = true → ∀ i, i < m → gameP n (g i)) := fun h i hi => ((hr3.1 h).2 i hi).1
  have HV := Lib.hid hv
  have HG := Lib.hid hgv
  clear hgv
  obtain ⟨la, lc, rfl, _, _⟩ := hlad.form
  have HL := Lib.hid (hlad.below ((Below.refl w.heap.size w).alloc (Nat.le_refl _) (.cells #[.int .i64 win, .int .i64 draw, .int .i64 loss, .slice la nl lc, .bool agn] 26)) (Nat.le_refl _))
  clear hR hr1 hr3 hall hlad hv
  cases r1 with
  | false =>
    obtain rfl := HN.out fun h => by have := h.1; cases this
    clear HN HY HSea
    go_enter Try.func32, Try.ntmps32
    go_wp2_with fail
    refine (C1.out _ HL.out).mono ?_
    rintro e w1 ⟨rfl, b1⟩
    have HB := Lib.hid (below_prev b1)
    clear b1
    go_wp2
    go_ret
    exact made_none HB.out
  | true =>
  by_cases h2 : 2 ≤ n ∧ n ≤ 8
  case neg =>
    obtain rfl := HN.out fun h => h2 h.2.1
    clear HN HY HSea
    go_enter Try.func32, Try.ntmps32
    go_wp2_with fail
    refine (C1.out _ HL.out).mono ?_
    rintro e w1 ⟨rfl, b1⟩
    have HB := Lib.hid (below_prev b1)
    clear b1
    go_wp2_with (go_at_call 59; refine (l01In_no _ _ _ _ h2).mono ?_; rintro e w2 ⟨rfl, rfl⟩)
    go_ret
    exact made_none HB.out
  cases r3 with
  | false =>
    obtain rfl := HN.out fun h => by have := h.2.2; cases this
    clear HN HY HSea
    go_enter Try.func32, Try.ntmps32
    go_wp2_with fail
    refine (C1.out _ HL.out).mono ?_
    rintro e w1 ⟨rfl, b1⟩
    have BU := BoxN.made b1 (B := w.heap.size) rfl
    have HB := Lib.hid (below_prev b1)
    have HBU := Lib.hid BU
    have HV1 := Lib.hid (HV.out.below HB.out (Nat.le_refl _))
    clear b1 BU
    go_wp2_with fail
    refine (l01In_yes _ _ _ _ h2).mono ?_
    rintro e w2 ⟨rfl, rfl⟩
    go_wp2_with fail
    refine (C3.out _ HV1.out).mono ?_
    rintro e w2 ⟨rfl, b2⟩
    have HB2 := Lib.hid (HB.out.trans (b2.mono HB.out.size))
    clear b2
    go_wp2
    go_ret
    exact made_none HB2.out
  | true =>
    obtain rfl := HY.out ⟨rfl, h2, rfl⟩
    have HS := Lib.hid (HSea.out rfl)
    obtain ⟨n0, rfl⟩ : ∃ n0 : Nat, n = n0 := ⟨n.toNat, by omega⟩
    clear HN HY HSea
    rw [if_pos rfl]
    simp only [Int.toNat_natCast]
    go_enter Try.func32, Try.ntmps32
    go_wp2_with fail
    refine (C1.out _ HL.out).mono ?_
    rintro e w1 ⟨rfl, b1⟩
    have BU := BoxN.made b1 (B := w.heap.size) rfl
    have HB := Lib.hid (below_prev b1)
    have HBU := Lib.hid BU
    have HV1 := Lib.hid (HV.out.below HB.out (Nat.le_refl _))
    clear b1 BU
    go_wp2_with fail
    refine (l01In_yes _ _ _ _ h2).mono ?_
    rintro e w2 ⟨rfl, rfl⟩
    go_wp2_with fail
    refine (C3.out _ HV1.out).mono ?_
    rintro e w2 ⟨rfl, b2⟩
    have HB2 := Lib.hid (HB.out.trans (b2.mono HB.out.size))
    have HBU2 := Lib.hid (BoxN.below HBU.out b2)
    have HV2 := Lib.hid (HV.out.below HB2.out (Nat.le_refl _))
    have HG2 := Lib.hid (HG.out.below HB2.out (Nat.le_refl _))
    have v0 := HBU2.out.2 0 _ rfl
    have v1 := HBU2.out.2 1 _ rfl
    have v2 := HBU2.out.2 2 _ rfl
    have v3 := HBU2.out.2 3 _ rfl
    have v4 := HBU2.out.2 4 _ rfl
    have hl := HBU2.out.1
    clear b2 HBU HV1
    go_wp2_with fail
    refine (l06Among_spec win draw loss (.slice la nl lc) agn n0 m v g gv ng gg false _ ⟨_, _, _, rfl⟩ (by omega) HV2.out HG2.out HS.out).mono ?_
    rintro e w4 ⟨vr, xs, rfl, ho4, hc4, b4⟩
    have HB4 := Lib.hid (HB2.out.trans (b4.mono HB2.out.size))
    have HO4 := Lib.hid (owns_mono ho4 HB2.out.size)
    have HC4 := Lib.hid hc4
    clear ho4 hc4 b4 v0 v1 v2 v3 v4 hl
    go_wp2
    go_ret
    exact ⟨_, rfl, RecRow.of_owns HO4.out (by omega) HC4.out (fun _ _ => Nat.le_refl _), ⟨_, HO4.out⟩, HB4.out⟩
end Go.Proofs.Ytoingkchjiipgaa
