/-
  Packed: Tables4, Clubs, BookOk, BookVals, KeyValue, TeamsAll, Lists.
-/
import Derived.Test.YtojkonhhaamodaaQ1
import Derived.Test.YtojkonhhaamodaaQ2
import Derived.Test.YtojkonhhaamodaaQ3
import Derived.Test.YtojkonhhaamodaaQ7
set_option linter.unusedVariables false
namespace Go.Proofs.Ytojkonhhaamodaa
open Go.RowKit

/-- x is among the first n: as a Boolean -/
def hasB (g : Nat → Int) (n : Nat) (x : Int) : Bool := (List.range n).any fun j => g j == x
theorem hasB_iff {g : Nat → Int} {n : Nat} {x : Int} : hasB g n x = true ↔ hasP g x n := by
  unfold hasB hasP
  simp
theorem l02Has_any (v : Value) (n : Nat) (g : Nat → Int) (x : Int) (w : World) (h : IntRow w v n g) :
    Calls Try.prog 54 #[v, .int .i64 x] w fun e w' => e = .returned (.bool (hasB g n x)) ∧ w = w' := by
  cases hb : hasB g n x with
  | true => exact l02Has_yes v n g x w h (hasB_iff.1 hb)
  | false => exact l02Has_no v n g x w h fun hp => by rw [hasB_iff.2 hp] at hb; cases hb
/-- the games that a table is made of -/
def selG (all : Bool) (gg : Nat → Int) (ng : Nat) (x : GameD) : Bool := all || (hasB gg ng x.home && hasB gg ng x.away)
/-- the table behind the first k games -/
def tabR (win draw loss : Int) (sel : GameD → Bool) (g : Nat → GameD) : Nat → Nat → RowD
  | 0 => fun _ => zeroR
  | k + 1 => if sel (g k) = true then addG win draw loss (tabR win draw loss sel g k) (g k) else tabR win draw loss sel g k
theorem made_rows (n : Nat) : RecCells 7 n (madeCells (Value.agg #[.int .i64 0, .int .i64 0, .int .i64 0, .int .i64 0, .int .i64 0, .int .i64 0, .int .i64 0]).cells (n * 7)).toList (fun _ => zeroR.cells) := by
  intro i hi j u hu
  have hj : j < 7 := by have := (List.getElem?_eq_some_iff.1 hu).1; simpa [RowD.cells] using this
  have hu0 : u = .int .i64 0 := by
    have : j = 0 ∨ j = 1 ∨ j = 2 ∨ j = 3 ∨ j = 4 ∨ j = 5 ∨ j = 6 := by omega
    rcases this with rfl | rfl | rfl | rfl | rfl | rfl | rfl <;> (simp [RowD.cells, zeroR] at hu; exact hu.symm)
  subst hu0
  have hlt : i * 7 + j < n * 7 := by omega
  have hz : ∀ t, t < 7 → (#[Value.int .i64 0, .int .i64 0, .int .i64 0, .int .i64 0, .int .i64 0, .int .i64 0, .int .i64 0])[t]! = Value.int .i64 0 := by
    intro t ht
    have : t = 0 ∨ t = 1 ∨ t = 2 ∨ t = 3 ∨ t = 4 ∨ t = 5 ∨ t = 6 := by omega
    rcases this with rfl | rfl | rfl | rfl | rfl | rfl | rfl <;> rfl
  have hc : (Value.agg #[.int .i64 0, .int .i64 0, .int .i64 0, .int .i64 0, .int .i64 0, .int .i64 0, .int .i64 0]).cells = #[Value.int .i64 0, .int .i64 0, .int .i64 0, .int .i64 0, .int .i64 0, .int .i64 0, .int .i64 0] := rfl
  rw [hc, Array.getElem?_toList]
  unfold madeCells
  rw [Array.getElem?_map, Array.getElem?_range, if_pos hlt]
  simp only [Option.map_some]
  exact congrArg some (hz _ (Nat.mod_lt _ (by decide)))

theorem boolEx (p : Prop) : ∃ R : Bool, R = true ↔ p := by
  by_cases h : p
  · exact ⟨true, fun _ => h, fun _ => rfl⟩
  · exact ⟨false, (fun e => by cases e), fun e => absurd e h⟩

set_option maxHeartbeats 2000000 in
theorem l06Among_spec (win draw loss : Int) (lad : Value) (agn : Bool) (n m : Nat) (v : Value) (g : Nat → GameD) (gv : Value) (ng : Nat) (gg : Nat → Int) (all : Bool) (w : World) (hlad : ∃ a l c, lad = .slice a l c) (hn : n ≤ 8)
    (hv : GameRow w v m g) (hgv : IntRow w gv ng gg) (hsea : ∀ i, i < m → gameP n (g i)) :
    Calls Try.prog 96 #[.agg #[.int .i64 win, .int .i64 draw, .int .i64 loss, lad, .bool agn], .int .i64 n, v, gv, .bool all] w fun e w' => ∃ vr xs, e = .returned vr ∧ w'.ownsRow w.heap.size 139 7 vr n xs ∧
      RecCells 7 n xs (fun i => (tabR win draw loss (selG all gg ng) g m i).cells) ∧ Below w.heap.size w w' := by
  obtain ⟨la, ll, lc, rfl⟩ := hlad
  obtain ⟨i0, hi, hz0, hz1, hz2⟩ := info_parts Try.infoRow
  obtain ⟨aa, cap, rfl, hm, hc⟩ := hv.form
  have HV := Lib.hid hc
  have HG := Lib.hid hgv
  have HS := Lib.hid hsea
  clear hc hv hgv hsea
  have hu0 : Hid (BoxN (w.alloc (.cells #[.int .i64 win, .int .i64 draw, .int .i64 loss, .slice la ll lc, .bool agn] 26)) w.heap.size [.int .i64 win, .int .i64 draw, .int .i64 loss, .slice la ll lc, .bool agn]) := BoxN.made (Below.refl _ _) rfl
  have hb0 : Hid (Below w.heap.size w (w.alloc (.cells #[.int .i64 win, .int .i64 draw, .int .i64 loss, .slice la ll lc, .bool agn] 26))) := (Below.refl _ _).alloc (Nat.le_refl _) _
  go_enter Try.func96, Try.ntmps96
  go_wp2_with (at_make; refine wpList_make_full _ rfl _ _ 136 rfl w.heap.size 139 i0 (.agg #[.int .i64 0, .int .i64 0, .int .i64 0, .int .i64 0, .int .i64 0, .int .i64 0, .int .i64 0]) 7 Try.underlying136 hi hz0 hz1 .i64 .i64 n n n rfl rfl rfl rfl (by rw [hz2]; omega) (by unfold maxLen; omega) (by simp) ?_; intro w1 hown hg1)
  have hg1' : Below (w.heap.size + 1) (w.alloc (.cells #[.int .i64 win, .int .i64 draw, .int .i64 loss, .slice la ll lc, .bool agn] 26)) w1 := (Below.refl _ _).grown hg1 (by simp) (fun k hk => by cases hk)
  have HU := Lib.hid (BoxN.below hu0.out (hg1'.mono (by simp)))
  have HB := Lib.hid (hb0.out.trans (hg1'.mono (by simp)))
  have HO := Lib.hid hown
  have HC := Lib.hid (made_rows n)
  have es : (w.alloc (.cells #[.int .i64 win, .int .i64 draw, .int .i64 loss, .slice la ll lc, .bool agn] 26)).heap.size = w.heap.size + 1 := by simp
  rw [es] at HO
  clear hg1 hg1' hu0 hb0 hown es
  go_wp2
  go_loopw [18] (fun i wr => ∃ (k : Nat) (xs : List Value), k ≤ m ∧ i = .int .i64 k ∧ Hid (wr.ownsRow w.heap.size 139 7 (.slice (some ⟨w.heap.size + 1, 0, none⟩) n n) n xs) ∧ Hid (RecCells 7 n xs (fun i => (tabR win draw loss (selG all gg ng) g k i).cells)) ∧
      Hid (BoxN wr w.heap.size [.int .i64 win, .int .i64 draw, .int .i64 loss, .slice la ll lc, .bool agn]) ∧ Hid (Below w.heap.size w wr)) (fun i _ => m - (intOf i).toNat)
  case atStart => exact ⟨0, _, Nat.zero_le _, rfl, HO, HC, HU, HB⟩
  case round =>
    clear HO HC HU HB
    obtain ⟨k, xs, hk, rfl, HO, HC, HU, HB⟩ := hrel
    by_cases hlt : k < m
    · obtain ⟨b, off, rfl, hcap, hc⟩ := HV.out (by omega)
      have hq := (hc k hlt).belowB HB.out (hc k hlt).1
      have hgp := HS.out k hlt
      have HY : Hid (selG all gg ng (g k) = true → tabR win draw loss (selG all gg ng) g (k + 1) = addG win draw loss (tabR win draw loss (selG all gg ng) g k) (g k)) := fun h => if_pos h
      have HN : Hid (selG all gg ng (g k) = false → tabR win draw loss (selG all gg ng) g (k + 1) = tabR win draw loss (selG all gg ng) g k) := fun h => if_neg (by rw [h]; simp)
      have HSel : Hid (selG all gg ng (g k) = (all || (hasB gg ng (g k).home && hasB gg ng (g k).away))) := rfl
      rw [HSel.out] at HY HN
      generalize g k = x at *
      obtain ⟨x0, x1, x2, x3, x4⟩ := x
      obtain ⟨⟨n1, n2⟩, ⟨q1, q2⟩, ⟨q3, q4⟩, _⟩ := hgp
      simp only at q1 q2 q3 q4 HY HN
      obtain ⟨p, rfl⟩ : ∃ p : Nat, x0 = p := ⟨x0.toNat, by omega⟩
      obtain ⟨q, rfl⟩ : ∃ q : Nat, x1 = q := ⟨x1.toNat, by omega⟩
      have hpn : p < n := by omega
      have hqn : q < n := by omega
      obtain ⟨c0, c1, c2, c3, c4⟩ := game_cells hq
      simp only at c0 c1 c2 c3 c4
      have hsz := HB.out.size
      have hb1 := (Below.refl wr.heap.size wr).alloc (Nat.le_refl _) (.cells #[.int .i64 (p : Int), .int .i64 (q : Int), .int .i64 x2, .int .i64 x3, .int .i64 x4] 37)
      have HB1 := Lib.hid (HB.out.trans (hb1.mono hsz))
      have HO1 := Lib.hid (owns_below HO.out hb1 (Nat.le_refl _))
      have HU1 := Lib.hid (BoxN.below HU.out hb1)
      have HG1 := Lib.hid (HG.out.below HB1.out (Nat.le_refl _))
      have C := Lib.hid (fun t => l02Has_any gv ng gg t _ HG1.out)
      have hul := HU.out.1
      have v0 := HU.out.2 0 _ rfl
      have v1 := HU.out.2 1 _ rfl
      have v2 := HU.out.2 2 _ rfl
      have v3 := HU.out.2 3 _ rfl
      have v4 := HU.out.2 4 _ rfl
      clear hc HV hq HSel hb1 HO HU HB q1 q2 q3 q4 n1 n2
      cases all with
      | true =>
        simp only [Bool.true_or] at HY HN
        have HT := Lib.hid (HY.out (by first | rfl | trivial))
        clear HY HN
        go_wp2_with fail
        refine (l06Add_spec win draw loss (.slice la ll lc) agn p q x2 x3 x4 w.heap.size (w.heap.size + 1) n n xs _ _ ⟨_, _, _, rfl⟩ hpn hqn HO1.out HC.out).mono ?_
        rintro e w4 ⟨rfl, xs', ho4, hc4, t4⟩
        have HO4 := Lib.hid ho4
        have HC4 := Lib.hid hc4
        have HU4 := Lib.hid (BoxN.touch HU1.out t4 (.inl (Nat.lt_succ_self _)))
        have HB4 := Lib.hid (HB1.out.trans (t4.below (Nat.le_succ _) HB1.out.size))
        clear ho4 hc4 t4 HO1 HC HU1 HB1 C c0 c1 c2 c3 c4
        go_wp2
        go_roundw
        case rel => exact ⟨k + 1, xs', by omega, by go_num, HO4.out, by rw [HT.out]; exact HC4.out, HU4.out, HB4.out⟩
        case measure => simp [intOf]; omega
      | false =>
        simp only [Bool.false_or] at HY HN
        generalize hbp : hasB gg ng (p : Int) = bp at *
        generalize hbq : hasB gg ng (q : Int) = bq at *
        have C1 := Lib.hid (C.out (p : Int))
        have C2 := Lib.hid (C.out (q : Int))
        rw [hbp] at C1
        rw [hbq] at C2
        clear hbp hbq
        cases bp with
        | false =>
          simp only [Bool.false_and] at HY HN
          have HT := Lib.hid (HN.out (by first | rfl | trivial))
          clear HY HN
          go_wp2_with fail
          refine C1.out.mono ?_
          rintro e w3 ⟨rfl, rfl⟩
          clear C1 C2 C
          go_wp2
          go_roundw
          case rel => exact ⟨k + 1, xs, by omega, by go_num, HO1.out, by rw [HT.out]; exact HC.out, HU1.out, HB1.out⟩
          case measure => simp [intOf]; omega
        | true =>
          simp only [Bool.true_and] at HY HN
          cases bq with
          | false =>
            have HT := Lib.hid (HN.out (by first | rfl | trivial))
            clear HY HN
            go_wp2_with fail
            refine C1.out.mono ?_
            rintro e w3 ⟨rfl, rfl⟩
            go_wp2_with fail
            refine C2.out.mono ?_
            rintro e w3 ⟨rfl, rfl⟩
            clear C1 C2 C
            go_wp2
            go_roundw
            case rel => exact ⟨k + 1, xs, by omega, by go_num, HO1.out, by rw [HT.out]; exact HC.out, HU1.out, HB1.out⟩
            case measure => simp [intOf]; omega
          | true =>
            have HT := Lib.hid (HY.out (by first | rfl | trivial))
            clear HY HN
            go_wp2_with fail
            refine C1.out.mono ?_
            rintro e w3 ⟨rfl, rfl⟩
            go_wp2_with fail
            refine C2.out.mono ?_
            rintro e w3 ⟨rfl, rfl⟩
            go_wp2_with fail
            refine (l06Add_spec win draw loss (.slice la ll lc) agn p q x2 x3 x4 w.heap.size (w.heap.size + 1) n n xs _ _ ⟨_, _, _, rfl⟩ hpn hqn HO1.out HC.out).mono ?_
            rintro e w4 ⟨rfl, xs', ho4, hc4, t4⟩
            have HO4 := Lib.hid ho4
            have HC4 := Lib.hid hc4
            have HU4 := Lib.hid (BoxN.touch HU1.out t4 (.inl (Nat.lt_succ_self _)))
            have HB4 := Lib.hid (HB1.out.trans (t4.below (Nat.le_succ _) HB1.out.size))
            clear ho4 hc4 t4 HO1 HC HU1 HB1 C c0 c1 c2 c3 c4
            go_wp2
            go_roundw
            case rel => exact ⟨k + 1, xs', by omega, by go_num, HO4.out, by rw [HT.out]; exact HC4.out, HU4.out, HB4.out⟩
            case measure => simp [intOf]; omega
    · obtain rfl : k = m := by omega
      go_wp2
      go_ret
      exact ⟨_, xs, rfl, HO.out, HC.out, HB.out⟩
/-- a table is asked of valid rules, a field's size and a valid season -/
def tabP (win draw loss : Int) (nl : Nat) (gl : Nat → Int) (n : Int) (m : Nat) (g : Nat → GameD) : Prop := rulesP win draw loss nl gl ∧ (2 ≤ n ∧ n ≤ 8) ∧ seasonP n m g
theorem made_none {w w' : World} {k : Nat} {T : TypeId} {g : Nat → List Value} (hb : Below w.heap.size w w') : RecMade k T w 0 g (.returned (.slice none 0 0)) w' :=
  ⟨_, rfl, .inl ⟨_, _, rfl, rfl⟩, ⟨_, World.ownsRow_nil _ _ _ _⟩, hb⟩

end Go.Proofs.Ytojkonhhaamodaa
set_option linter.unusedVariables false
namespace Go.Proofs.Ytojkonhhaamodaa
open Go.RowKit

/-- the call makes a slice that holds L and owns its memory -/
def NumsMade (w : World) (L : List Int) (e : Ending) (w' : World) : Prop :=
  ∃ v, e = .returned v ∧ w'.ownsRow w.heap.size 3 1 v L.length (L.map (Value.int .i64)) ∧ Below w.heap.size w w'
/-- the indices below k whose number f is c -/
def selL (f : Nat → Int) (c : Int) : Nat → List Int
  | 0 => []
  | k + 1 => selL f c k ++ if f k = c then [(k : Int)] else []
theorem selL_yes {f : Nat → Int} {c : Int} {k : Nat} (h : f k = c) : selL f c (k + 1) = selL f c k ++ [(k : Int)] := by simp [selL, h]
theorem selL_no {f : Nat → Int} {c : Int} {k : Nat} (h : f k ≠ c) : selL f c (k + 1) = selL f c k := by simp [selL, h]
theorem selL_len (f : Nat → Int) (c : Int) : ∀ k, (selL f c k).length ≤ k
  | 0 => Nat.le_refl _
  | k + 1 => by
    have := selL_len f c k
    by_cases h : f k = c
    · rw [selL_yes h]; simp; omega
    · rw [selL_no h]; omega

/-- the indices in the order of their numbers f, from 1 to s -/
def seedsL (f : Nat → Int) (n : Nat) : Nat → List Int
  | 0 => []
  | s + 1 => seedsL f n s ++ selL f ((s : Int) + 1) n
/-- how many of the clubs below c have a team -/
def clubsN (g : Nat → TeamD) (n : Nat) : Nat → Nat
  | 0 => 0
  | c + 1 => clubsN g n c + if 0 < (selL (fun i => (g i).club) (c : Int) n).length then 1 else 0
theorem clubsN_le (g : Nat → TeamD) (n : Nat) : ∀ c, clubsN g n c ≤ c
  | 0 => Nat.le_refl _
  | c + 1 => by
    have := clubsN_le g n c
    unfold clubsN
    split <;> omega
theorem TeamRow.below {w w' : World} {B : Nat} {v : Value} {n : Nat} {g : Nat → TeamD} (h : TeamRow w v n g) (hb : Below B w w') (hB : w.heap.size ≤ B) : TeamRow w' v n g := by
  rcases h with h | ⟨b, off, cap, h1, h0, h2, h3, h4⟩
  · exact .inl h
  · refine .inr ⟨b, off, cap, h1, h0, h2, fun i hi => ?_, h4⟩
    obtain ⟨k0, k1, k2⟩ := h3 i hi
    have hlt := Nat.lt_of_lt_of_le (World.block_lt_of_cell? w _ k0) hB
    exact ⟨(hb.cell (p := ⟨b, off + i * 3, none⟩) hlt).trans k0, (hb.cell (p := ⟨b, off + i * 3 + 1, none⟩) hlt).trans k1, (hb.cell (p := ⟨b, off + i * 3 + 2, none⟩) hlt).trans k2⟩
theorem TeamRow.drewN {w : World} {v : Value} {n q : Nat} {g : Nat → TeamD} (h : TeamRow w v n g) : TeamRow (w.drewN q) v n g := by
  rcases h with h | ⟨b, off, cap, h1, h0, h2, h3, h4⟩
  · exact .inl h
  · exact .inr ⟨b, off, cap, h1, h0, h2, fun i hi => by simp only [World.cell?_drewN]; exact h3 i hi, h4⟩
theorem NumsMade.form {w w' : World} {L : List Int} {e : Ending} (h : NumsMade w L e w') :
    ∃ a cap, e = .returned (.slice a L.length cap) ∧ w'.ownsRow w.heap.size 3 1 (.slice a L.length cap) L.length (L.map (Value.int .i64)) ∧ Below w.heap.size w w' := by
  obtain ⟨v, rfl, hown, hb⟩ := h
  rcases hown.2 with ⟨rfl, h0⟩ | ⟨g, cap, cur, rfl, _⟩
  · cases L with
    | nil => exact ⟨_, _, rfl, hown, hb⟩
    | cons => simp at h0
  · exact ⟨_, _, rfl, hown, hb⟩
theorem seedsL_len (f : Nat → Int) (n : Nat) : ∀ s, (seedsL f n s).length ≤ s * n
  | 0 => by simp [seedsL]
  | s + 1 => by
    have h1 := seedsL_len f n s
    have h2 := selL_len f ((s : Int) + 1) n
    unfold seedsL
    rw [List.length_append, Nat.succ_mul]
    omega
end Go.Proofs.Ytojkonhhaamodaa
set_option linter.unusedVariables false
namespace Go.Proofs.Ytojkonhhaamodaa
open Go.RowKit

structure BookD where
  nf : Nat
  f : Nat → TeamD
  win : Int
  draw : Int
  loss : Int
  nl : Nat
  l : Nat → Int
  again : Bool
  m : Nat
  g : Nat → GameD
  nfa : Nat
  fa : Nat → Int
  nta : Nat
  ta : Nat → Int
/-- what the slices of a book hold -/
def BookRow (w : World) (vf vl vg vfa vta : Value) (b : BookD) : Prop :=
  TeamRow w vf b.nf b.f ∧ IntRow w vl b.nl b.l ∧ GameRow w vg b.m b.g ∧ IntRow w vfa b.nfa b.fa ∧ IntRow w vta b.nta b.ta
theorem BookRow.below {w w' : World} {B : Nat} {vf vl vg vfa vta : Value} {b : BookD} (h : BookRow w vf vl vg vfa vta b) (hb : Below B w w') (hB : w.heap.size ≤ B) : BookRow w' vf vl vg vfa vta b :=
  ⟨h.1.below hb hB, h.2.1.below hb hB, h.2.2.1.below hb hB, h.2.2.2.1.below hb hB, h.2.2.2.2.below hb hB⟩
theorem BookRow.form {w : World} {vf vl vg vfa vta : Value} {b : BookD} (h : BookRow w vf vl vg vfa vta b) :
    ∃ fa fc la lc ga gc qa qc ta tc, vf = .slice fa b.nf fc ∧ vl = .slice la b.nl lc ∧ vg = .slice ga b.m gc ∧ vfa = .slice qa b.nfa qc ∧ vta = .slice ta b.nta tc := by
  obtain ⟨fa, fc, h1, _⟩ := h.1.form
  obtain ⟨la, lc, h2, _⟩ := h.2.1.form
  obtain ⟨ga, gc, h3, _⟩ := h.2.2.1.form
  obtain ⟨qa, qc, h4, _⟩ := h.2.2.2.1.form
  obtain ⟨ta, tc, h5, _⟩ := h.2.2.2.2.form
  exact ⟨fa, fc, la, lc, ga, gc, qa, qc, ta, tc, h1, h2, h3, h4, h5⟩
def pensP (b : BookD) (i : Nat) : Prop := (0 ≤ b.fa i ∧ b.fa i ≤ 1000) ∧ (0 ≤ b.ta i ∧ b.ta i ≤ 1000)
/-- the book is valid -/
def bookP (b : BookD) : Prop := fieldP b.nf b.f ∧ rulesP b.win b.draw b.loss b.nl b.l ∧ seasonP b.nf b.m b.g ∧ b.nfa = b.nf ∧ b.nta = b.nf ∧ ∀ i, i < b.nf → pensP b i
theorem fieldOk_spec (v : Value) (n : Nat) (g : Nat → TeamD) (R : Bool) (w : World) (h : TeamRow w v n g) (hg : ∀ i, (g i).nm.size ≤ maxLen) (hR : R = true ↔ fieldP n g) :
    Calls Try.prog 73 #[v] w fun e w' => e = .returned (.bool R) ∧ Below w.heap.size w w' := by
  cases R with
  | true => exact (fieldOk_yes v n g w h hg (hR.1 rfl)).mono fun e w' h => ⟨h.1, by first | exact h.2 | (obtain ⟨q, rfl⟩ := h.2; exact below_drewN (Below.refl _ _) q) | (rw [← h.2]; exact Below.refl _ _)⟩
  | false => exact (fieldOk_no v n g w h hg fun hp => by have := hR.2 hp; cases this).mono fun e w' h => ⟨h.1, by first | exact h.2 | (obtain ⟨q, rfl⟩ := h.2; exact below_drewN (Below.refl _ _) q) | (rw [← h.2]; exact Below.refl _ _)⟩

theorem int_at {w : World} {a : Option Addr} {n c k : Nat} {g : Nat → Int} (h : IntRow w (.slice a n c) n g) (hk : k < n) : ∃ bo off, a = some ⟨bo, off, none⟩ ∧ n ≤ c ∧ w.cell? ⟨bo, off + k, none⟩ = some (.int .i64 (g k)) := by
  rcases h with ⟨_, _, _, h1⟩ | ⟨b', off, c', he, _, h3, hc, _⟩
  · omega
  · simp only [Value.slice.injEq, true_and] at he
    obtain ⟨rfl, rfl⟩ := he
    exact ⟨b', off, rfl, by omega, hc k hk⟩

set_option maxRecDepth 100000 in
set_option maxHeartbeats 2000000 in
theorem bookOk_spec (vf vl vg vfa vta : Value) (b : BookD) (R : Bool) (w : World) (hR : R = true ↔ bookP b) (h : BookRow w vf vl vg vfa vta b) (hs : ∀ i, (b.f i).nm.size ≤ maxLen) :
    Calls Try.prog 55 #[.agg #[vf, .int .i64 b.win, .int .i64 b.draw, .int .i64 b.loss, vl, .bool b.again, vg, vfa, vta]] w fun e w' => e = .returned (.bool R) ∧ Below w.heap.size w w' := by
  obtain ⟨fa, fc, la, lc, ga, gc, qa, qc, ta, tc, rfl, rfl, rfl, rfl, rfl⟩ := h.form
  obtain ⟨r1, hr1⟩ := boolEx (fieldP b.nf b.f)
  obtain ⟨r2, hr2⟩ := boolEx (rulesP b.win b.draw b.loss b.nl b.l)
  obtain ⟨r3, hr3⟩ := boolEx (seasonP b.nf b.m b.g)
  have C1 := Lib.hid (fun w1 h1 => fieldOk_spec (.slice fa b.nf fc) b.nf b.f r1 w1 h1 hs hr1)
  have C2 := Lib.hid (fun w1 h1 => rulesOk_spec b.win b.draw b.loss b.again r2 (.slice la b.nl lc) b.nl b.l w1 hr2 h1)
  have C3 := Lib.hid (fun w1 h1 => seasonOk_spec b.nf (.slice ga b.m gc) b.m b.g r3 w1 hr3 h1)
  have hall : R = true ↔ (r1 = true ∧ r2 = true ∧ r3 = true ∧ b.nfa = b.nf ∧ b.nta = b.nf ∧ ∀ i, i < b.nf → pensP b i) := by rw [hR, hr1, hr2, hr3]; exact Iff.rfl
  have HN := Lib.hid (boolF hall)
  have HY := Lib.hid (boolT hall)
  have b0 := (Below.refl w.heap.size w).alloc (Nat.le_refl _) (.cells #[.slice fa b.nf fc, .int .i64 b.win, .int .i64 b.draw, .int .i64 b.loss, .slice la b.nl lc, .bool b.again, .slice ga b.m gc, .slice qa b.nfa qc, .slice ta b.nta tc] 29)
  have BX0 := Lib.hid (BoxN.made (Below.refl (w.alloc (.cells #[.slice fa b.nf fc, .int .i64 b.win, .int .i64 b.draw, .int .i64 b.loss, .slice la b.nl lc, .bool b.again, .slice ga b.m gc, .slice qa b.nfa qc, .slice ta b.nta tc] 29)).heap.size (w.alloc (.cells #[.slice fa b.nf fc, .int .i64 b.win, .int .i64 b.draw, .int .i64 b.loss, .slice la b.nl lc, .bool b.again, .slice ga b.m gc, .slice qa b.nfa qc, .slice ta b.nta tc] 29))) (B := w.heap.size) rfl)
  have BR0 := Lib.hid (h.below b0 (Nat.le_refl _))
  have HB0 := Lib.hid b0
  have hn64 : (b.nf : Int) ≤ 9223372036854775807 := by obtain ⟨_, _, _, hq, _⟩ := h.1.form; omega
  clear hR hr1 hr2 hr3 hall h b0 hs
  have d0 := BX0.out.2 0 _ rfl
  have d1 := BX0.out.2 1 _ rfl
  have d2 := BX0.out.2 2 _ rfl
  have d3 := BX0.out.2 3 _ rfl
  have d4 := BX0.out.2 4 _ rfl
  have d5 := BX0.out.2 5 _ rfl
  have d6 := BX0.out.2 6 _ rfl
  have d7 := BX0.out.2 7 _ rfl
  have d8 := BX0.out.2 8 _ rfl
  go_enter Try.func55, Try.ntmps55
  cases r1 with
  | false =>
    obtain rfl := HN.out fun h => by have := h.1; cases this
    clear HN HY
    go_wp2_with fail
    refine (C1.out _ BR0.out.1).mono ?_
    rintro e w1 ⟨rfl, b1⟩
    have BX1 := Lib.hid (BoxN.below BX0.out b1)
    have BR1 := Lib.hid (BR0.out.below b1 (Nat.le_refl _))
    have HB1 := Lib.hid (HB0.out.trans (b1.mono HB0.out.size))
    clear d0 d1 d2 d3 d4 d5 d6 d7 d8 BX0 BR0 HB0 b1
    have d0 := BX1.out.2 0 _ rfl
    have d1 := BX1.out.2 1 _ rfl
    have d2 := BX1.out.2 2 _ rfl
    have d3 := BX1.out.2 3 _ rfl
    have d4 := BX1.out.2 4 _ rfl
    have d5 := BX1.out.2 5 _ rfl
    have d6 := BX1.out.2 6 _ rfl
    have d7 := BX1.out.2 7 _ rfl
    have d8 := BX1.out.2 8 _ rfl
    go_wp2
    go_ret
    exact ⟨rfl, HB1.out⟩
  | true =>
  go_wp2_with fail
  refine (C1.out _ BR0.out.1).mono ?_
  rintro e w1 ⟨rfl, b1⟩
  have BX1 := Lib.hid (BoxN.below BX0.out b1)
  have BR1 := Lib.hid (BR0.out.below b1 (Nat.le_refl _))
  have HB1 := Lib.hid (HB0.out.trans (b1.mono HB0.out.size))
  clear d0 d1 d2 d3 d4 d5 d6 d7 d8 BX0 BR0 HB0 b1
  have d0 := BX1.out.2 0 _ rfl
  have d1 := BX1.out.2 1 _ rfl
  have d2 := BX1.out.2 2 _ rfl
  have d3 := BX1.out.2 3 _ rfl
  have d4 := BX1.out.2 4 _ rfl
  have d5 := BX1.out.2 5 _ rfl
  have d6 := BX1.out.2 6 _ rfl
  have d7 := BX1.out.2 7 _ rfl
  have d8 := BX1.out.2 8 _ rfl
  cases r2 with
  | false =>
    obtain rfl := HN.out fun h => by have := h.2.1; cases this
    clear HN HY
    go_wp2_with fail
    refine (C2.out _ BR1.out.2.1).mono ?_
    rintro e w2 ⟨rfl, b2⟩
    have BX2 := Lib.hid (BoxN.below BX1.out b2)
    have BR2 := Lib.hid (BR1.out.below b2 (Nat.le_refl _))
    have HB2 := Lib.hid (HB1.out.trans (b2.mono HB1.out.size))
    clear d0 d1 d2 d3 d4 d5 d6 d7 d8 BX1 BR1 HB1 b2
    have d0 := BX2.out.2 0 _ rfl
    have d1 := BX2.out.2 1 _ rfl
    have d2 := BX2.out.2 2 _ rfl
    have d3 := BX2.out.2 3 _ rfl
    have d4 := BX2.out.2 4 _ rfl
    have d5 := BX2.out.2 5 _ rfl
    have d6 := BX2.out.2 6 _ rfl
    have d7 := BX2.out.2 7 _ rfl
    have d8 := BX2.out.2 8 _ rfl
    go_wp2
    go_ret
    exact ⟨rfl, HB2.out⟩
  | true =>
  go_wp2_with fail
  refine (C2.out _ BR1.out.2.1).mono ?_
  rintro e w2 ⟨rfl, b2⟩
  have BX2 := Lib.hid (BoxN.below BX1.out b2)
  have BR2 := Lib.hid (BR1.out.below b2 (Nat.le_refl _))
  have HB2 := Lib.hid (HB1.out.trans (b2.mono HB1.out.size))
  clear d0 d1 d2 d3 d4 d5 d6 d7 d8 BX1 BR1 HB1 b2
  have d0 := BX2.out.2 0 _ rfl
  have d1 := BX2.out.2 1 _ rfl
  have d2 := BX2.out.2 2 _ rfl
  have d3 := BX2.out.2 3 _ rfl
  have d4 := BX2.out.2 4 _ rfl
  have d5 := BX2.out.2 5 _ rfl
  have d6 := BX2.out.2 6 _ rfl
  have d7 := BX2.out.2 7 _ rfl
  have d8 := BX2.out.2 8 _ rfl
  cases r3 with
  | false =>
    obtain rfl := HN.out fun h => by have := h.2.2.1; cases this
    clear HN HY
    go_wp2_with fail
    refine (C3.out _ BR2.out.2.2.1).mono ?_
    rintro e w3 ⟨rfl, b3⟩
    have BX3 := Lib.hid (BoxN.below BX2.out b3)
    have BR3 := Lib.hid (BR2.out.below b3 (Nat.le_refl _))
    have HB3 := Lib.hid (HB2.out.trans (b3.mono HB2.out.size))
    clear d0 d1 d2 d3 d4 d5 d6 d7 d8 BX2 BR2 HB2 b3
    have d0 := BX3.out.2 0 _ rfl
    have d1 := BX3.out.2 1 _ rfl
    have d2 := BX3.out.2 2 _ rfl
    have d3 := BX3.out.2 3 _ rfl
    have d4 := BX3.out.2 4 _ rfl
    have d5 := BX3.out.2 5 _ rfl
    have d6 := BX3.out.2 6 _ rfl
    have d7 := BX3.out.2 7 _ rfl
    have d8 := BX3.out.2 8 _ rfl
    go_wp2
    go_ret
    exact ⟨rfl, HB3.out⟩
  | true =>
  go_wp2_with fail
  refine (C3.out _ BR2.out.2.2.1).mono ?_
  rintro e w3 ⟨rfl, b3⟩
  have BX3 := Lib.hid (BoxN.below BX2.out b3)
  have BR3 := Lib.hid (BR2.out.below b3 (Nat.le_refl _))
  have HB3 := Lib.hid (HB2.out.trans (b3.mono HB2.out.size))
  clear d0 d1 d2 d3 d4 d5 d6 d7 d8 BX2 BR2 HB2 b3
  have d0 := BX3.out.2 0 _ rfl
  have d1 := BX3.out.2 1 _ rfl
  have d2 := BX3.out.2 2 _ rfl
  have d3 := BX3.out.2 3 _ rfl
  have d4 := BX3.out.2 4 _ rfl
  have d5 := BX3.out.2 5 _ rfl
  have d6 := BX3.out.2 6 _ rfl
  have d7 := BX3.out.2 7 _ rfl
  have d8 := BX3.out.2 8 _ rfl
  by_cases h4 : b.nfa = b.nf
  case neg =>
    obtain rfl := HN.out fun h => h4 h.2.2.2.1
    have g1 : ((b.nfa : Int) == b.nf) = false := beq_eq_false_iff_ne.2 (by omega)
    have g2 : ((b.nfa : Int) != b.nf) = true := by unfold bne; rw [g1]; rfl
    clear HN HY h4
    go_wp2
    go_ret
    exact ⟨rfl, HB3.out⟩
  by_cases h5 : b.nta = b.nf
  case neg =>
    obtain rfl := HN.out fun h => h5 h.2.2.2.2.1
    have g1 : ((b.nfa : Int) == b.nf) = true := beq_iff_eq.2 (by omega)
    have g2 : ((b.nfa : Int) != b.nf) = false := by unfold bne; rw [g1]; rfl
    have g3 : ((b.nta : Int) == b.nf) = false := beq_eq_false_iff_ne.2 (by omega)
    have g4 : ((b.nta : Int) != b.nf) = true := by unfold bne; rw [g3]; rfl
    have H4 := Lib.hid h4
    clear HN HY h5 h4
    go_wp2
    go_ret
    exact ⟨rfl, HB3.out⟩
  have g1 : ((b.nfa : Int) == b.nf) = true := beq_iff_eq.2 (by omega)
  have g2 : ((b.nfa : Int) != b.nf) = false := by unfold bne; rw [g1]; rfl
  have g3 : ((b.nta : Int) == b.nf) = true := beq_iff_eq.2 (by omega)
  have g4 : ((b.nta : Int) != b.nf) = false := by unfold bne; rw [g3]; rfl
  have HN2 : Hid (∀ k, k < b.nf → ¬ pensP b k → R = false) := fun k hk h => HN.out fun hp => h (hp.2.2.2.2.2 k hk)
  have HY2 : Hid ((∀ i, i < b.nf → pensP b i) → R = true) := fun h => HY.out ⟨by first | rfl | trivial, by first | rfl | trivial, by first | rfl | trivial, h4, h5, h⟩
  have H4 := Lib.hid h4
  have H5 := Lib.hid h5
  clear HN HY h4 h5 C1 C2 C3
  go_wp2
  clear g1 g2 g3 g4 d0 d1 d2 d3 d4 d5 d6 d7 d8
  go_loopw [42] (fun i wr => ∃ k : Nat, k ≤ b.nf ∧ i = .int .i64 k ∧ Hid (∀ i, i < k → pensP b i) ∧ Hid (BoxN wr w.heap.size [.slice fa b.nf fc, .int .i64 b.win, .int .i64 b.draw, .int .i64 b.loss, .slice la b.nl lc, .bool b.again, .slice ga b.m gc, .slice qa b.nfa qc, .slice ta b.nta tc]) ∧ Hid (BookRow wr (.slice fa b.nf fc) (.slice la b.nl lc) (.slice ga b.m gc) (.slice qa b.nfa qc) (.slice ta b.nta tc) b) ∧ Hid (Below w.heap.size w wr)) (fun i _ => b.nf - (intOf i).toNat)
  case atStart => exact ⟨0, Nat.zero_le _, rfl, fun i hi => absurd hi (by omega), BX3, BR3, HB3⟩
  case round =>
    clear BX3 BR3 HB3
    obtain ⟨k, hk, rfl, hok, BX, BR, HB⟩ := hrel
    by_cases hlt : k < b.nf
    · have hc1 : wr.cell? ⟨w.heap.size, 7, none⟩ = some (.slice qa b.nfa qc) := BX.out.2 7 _ rfl
      have hc2 : wr.cell? ⟨w.heap.size, 8, none⟩ = some (.slice ta b.nta tc) := BX.out.2 8 _ rfl
      obtain ⟨q1, p1, rfl, hcq, u1⟩ : ∃ bo off, qa = some ⟨bo, off, none⟩ ∧ b.nfa ≤ qc ∧ wr.cell? ⟨bo, off + k, none⟩ = some (.int .i64 (b.fa k)) := int_at BR.out.2.2.2.1 (by have := H4.out; omega)
      obtain ⟨q2, p2, rfl, hct, u2⟩ : ∃ bo off, ta = some ⟨bo, off, none⟩ ∧ b.nta ≤ tc ∧ wr.cell? ⟨bo, off + k, none⟩ = some (.int .i64 (b.ta k)) := int_at BR.out.2.2.2.2 (by have := H5.out; omega)
      have e1 : (k : Int) < b.nfa := by have := H4.out; omega
      have e2 : (k : Int) < b.nta := by have := H5.out; omega
      have e3 : k < b.nfa := by omega
      have e4 : k < b.nta := by omega
      have hS : Hid (pensP b k → ∀ i, i < k + 1 → pensP b i) := fun h i hi => by
        by_cases hik : i = k
        · subst hik; exact h
        · exact hok.out i (by omega)
      have HNk := Lib.hid (HN2.out k hlt)
      clear HN2 HY2 hok
      by_cases hf : 0 ≤ b.fa k ∧ b.fa k ≤ 1000
      case neg =>
        obtain rfl := HNk.out fun h => hf h.1
        clear HNk hS
        go_wp2_with (go_at_call 45; refine (l01In_no _ _ _ _ hf).mono ?_; rintro e w2 ⟨rfl, rfl⟩)
        go_ret
        exact ⟨rfl, HB.out⟩
      by_cases ht : 0 ≤ b.ta k ∧ b.ta k ≤ 1000
      case neg =>
        obtain rfl := HNk.out fun h => ht h.2
        clear HNk hS
        go_wp2_with fail
        refine (l01In_yes _ _ _ _ hf).mono ?_
        rintro e w2 ⟨rfl, rfl⟩
        go_wp2_with fail
        refine (l01In_no _ _ _ _ ht).mono ?_
        rintro e w2 ⟨rfl, rfl⟩
        go_wp2
        go_ret
        exact ⟨rfl, HB.out⟩
      have HSk := Lib.hid (hS.out ⟨hf, ht⟩)
      clear HNk hS
      go_wp2_with fail
      refine (l01In_yes _ _ _ _ hf).mono ?_
      rintro e w2 ⟨rfl, rfl⟩
      go_wp2_with fail
      refine (l01In_yes _ _ _ _ ht).mono ?_
      rintro e w2 ⟨rfl, rfl⟩
      go_wp2
      go_roundw
      case rel => exact ⟨k + 1, by omega, by go_num, HSk.out, BX, BR, HB⟩
      case measure => simp [intOf]; omega
    · obtain rfl : b.nf = k := by omega
      obtain rfl := HY2.out hok.out
      clear HN2 HY2 hok
      go_wp2
      go_ret
      exact ⟨rfl, HB.out⟩
end Go.Proofs.Ytojkonhhaamodaa
set_option linter.unusedVariables false
namespace Go.Proofs.Ytojkonhhaamodaa
open Go.RowKit

/-- a team's value for a key -/
def valD (key : Int) (r : RowD) (tk fr sd : Int) : Int :=
  if key = 1 then wrap64 (r.points - tk) else if key = 5 then r.points else if key = 2 ∨ key = 6 then wrap64 (r.scored - r.against) else if key = 3 then r.scored else if key = 4 then r.wins else if key = 7 then wrap64 (-fr) else if key = 8 then wrap64 (-sd) else 0
def bookT (b : BookD) (key : Int) (gg : Nat → Int) (ng : Nat) : Nat → RowD := tabR b.win b.draw b.loss (selG (!mutualB key) gg ng) b.g b.m
def bookV (b : BookD) (key : Int) (gg : Nat → Int) (ng : Nat) (i : Nat) : Int := valD key (bookT b key gg ng i) (b.ta i) (b.fa i) (b.f i).seed
theorem row_of {w : World} {a : Option Addr} {c n j : Nat} {T : Nat → RowD} (h : RowRow w (.slice a n c) n T) (hj : j < n) : ∃ bo off, a = some ⟨bo, off, none⟩ ∧ n ≤ c ∧ CellsAt w bo (off + j * 7) (T j).cells := by
  obtain ⟨aa, cap, he, _, hc⟩ := h.form
  simp only [Value.slice.injEq, true_and] at he
  obtain ⟨bo, off, h1, h2, h3⟩ := hc (by omega)
  obtain ⟨rfl, rfl⟩ := he
  exact ⟨bo, off, h1, h2, h3 j hj⟩
def valsL (V : Nat → Int) (k : Nat) : List Int := (List.range k).map V
theorem valsL_succ (V : Nat → Int) (k : Nat) : valsL V (k + 1) = valsL V k ++ [V k] := by unfold valsL; rw [List.range_succ, List.map_append]; rfl
set_option maxRecDepth 100000 in
set_option maxHeartbeats 4000000 in
theorem l07Values_spec (vf vl vg vfa vta : Value) (b : BookD) (key : Int) (gv : Value) (ng : Nat) (gg : Nat → Int) (w : World) (hp : bookP b) (h : BookRow w vf vl vg vfa vta b) (hgv : IntRow w gv ng gg) :
    Calls Try.prog 95 #[.agg #[vf, .int .i64 b.win, .int .i64 b.draw, .int .i64 b.loss, vl, .bool b.again, vg, vfa, vta], .int .i64 key, gv] w (IntsL w (valsL (bookV b key gg ng) b.nf)) := by
  obtain ⟨i0, hi, hz0, hz1, hz2⟩ := info_parts Try.infoI
  obtain ⟨fa, fc, la, lc, ga, gc, qa, qc, ta, tc, rfl, rfl, rfl, rfl, rfl⟩ := h.form
  have hn8 : b.nf ≤ 8 := by have := hp.1.1; omega
  have hfa : b.nfa = b.nf := hp.2.2.2.1
  have hta : b.nta = b.nf := hp.2.2.2.2.1
  have CAM := Lib.hid (fun wa h1 h2 => l06Among_spec b.win b.draw b.loss (.slice la b.nl lc) b.again b.nf b.m (.slice ga b.m gc) b.g gv ng gg (!mutualB key) wa ⟨_, _, _, rfl⟩ hn8 h1 h2 (fun i hi => (hp.2.2.1.2 i hi).1))
  obtain ⟨T, hT⟩ : ∃ T, tabR b.win b.draw b.loss (selG (!mutualB key) gg ng) b.g b.m = T := ⟨_, rfl⟩
  rw [hT] at CAM
  have HVd : Hid (∀ i, bookV b key gg ng i = valD key (T i) (b.ta i) (b.fa i) (b.f i).seed) := fun i => by rw [← hT]; rfl
  generalize bookV b key gg ng = V at *
  generalize hmu : mutualB key = mu at *
  have HMU := Lib.hid hmu
  have HFA := Lib.hid hfa
  have HTA := Lib.hid hta
  have CMU : Hid (∀ wa, Calls Try.prog 94 #[.int .i64 key] wa fun e w' => e = .returned (.bool mu) ∧ Below wa.heap.size wa w') := fun wa => by rw [← HMU.out]; exact (isMutual_spec key wa).mono fun _ _ h => ⟨h.1, by rw [← h.2]; exact Below.refl _ _⟩
  have b0 := (Below.refl w.heap.size w).alloc (Nat.le_refl _) (.cells #[.slice fa b.nf fc, .int .i64 b.win, .int .i64 b.draw, .int .i64 b.loss, .slice la b.nl lc, .bool b.again, .slice ga b.m gc, .slice qa b.nfa qc, .slice ta b.nta tc] 29)
  have BX0 := Lib.hid (BoxN.made (Below.refl (w.alloc (.cells #[.slice fa b.nf fc, .int .i64 b.win, .int .i64 b.draw, .int .i64 b.loss, .slice la b.nl lc, .bool b.again, .slice ga b.m gc, .slice qa b.nfa qc, .slice ta b.nta tc] 29)).heap.size (w.alloc (.cells #[.slice fa b.nf fc, .int .i64 b.win, .int .i64 b.draw, .int .i64 b.loss, .slice la b.nl lc, .bool b.again, .slice ga b.m gc, .slice qa b.nfa qc, .slice ta b.nta tc] 29))) (B := w.heap.size) rfl)
  have BR0 := Lib.hid (h.below b0 (Nat.le_refl _))
  have GR0 := Lib.hid (hgv.below b0 (Nat.le_refl _))
  have HB0 := Lib.hid b0
  clear h b0 hT hmu hp hgv hfa hta
  go_enter Try.func95, Try.ntmps95
  obtain ⟨S, HSd⟩ : ∃ S : World → Prop, S = fun w' => BoxN w' w.heap.size [.slice fa b.nf fc, .int .i64 b.win, .int .i64 b.draw, .int .i64 b.loss, .slice la b.nl lc, .bool b.again, .slice ga b.m gc, .slice qa b.nfa qc, .slice ta b.nta tc] ∧ BookRow w' (.slice fa b.nf fc) (.slice la b.nl lc) (.slice ga b.m gc) (.slice qa b.nfa qc) (.slice ta b.nta tc) b ∧ IntRow w' gv ng gg ∧ Below w.heap.size w w' := ⟨_, rfl⟩
  have KS : Hid (∀ wa wb, S wa → Below wa.heap.size wa wb → S wb) := by subst HSd; exact fun wa wb ⟨bx, br, gr, hb⟩ b0 => ⟨bx.below b0, br.below b0 (Nat.le_refl _), gr.below b0 (Nat.le_refl _), hb.trans (b0.mono hb.size)⟩
  have OS : Hid (∀ wa, S wa → BoxN wa w.heap.size [.slice fa b.nf fc, .int .i64 b.win, .int .i64 b.draw, .int .i64 b.loss, .slice la b.nl lc, .bool b.again, .slice ga b.m gc, .slice qa b.nfa qc, .slice ta b.nta tc] ∧ BookRow wa (.slice fa b.nf fc) (.slice la b.nl lc) (.slice ga b.m gc) (.slice qa b.nfa qc) (.slice ta b.nta tc) b ∧ IntRow wa gv ng gg ∧ Below w.heap.size w wa) := by subst HSd; exact fun wa h => h
  have KS0 : Hid (S (w.alloc (.cells #[.slice fa b.nf fc, .int .i64 b.win, .int .i64 b.draw, .int .i64 b.loss, .slice la b.nl lc, .bool b.again, .slice ga b.m gc, .slice qa b.nfa qc, .slice ta b.nta tc] 29)).drew) := by subst HSd; exact ⟨BX0.out.below (Below.refl _ _).drew, BR0.out.below (Below.refl _ _).drew (Nat.le_refl _), GR0.out.below (Below.refl _ _).drew (Nat.le_refl _), HB0.out.drew⟩
  clear HSd
  go_wp2_with fail
  refine wp_region_held_drew (S := S) (by kernel_rfl) ?_ (fun hHeld => ?_)
  · exact KS0.out
  clear KS0 
  refine wpAnyH_take (i := 0) (v := ?_) rfl (by kernel_rfl) (by kernel_rfl) (by kernel_rfl) (fun _ _ _ h => h) (Or.inl ⟨by rfl, ?_⟩) hHeld ?_
  rotate_left
  · (intro wa hSw; obtain ⟨bx, br, gr, hb⟩ := OS.out _ hSw; skip; go_simp; try with_reducible rfl)
  simp only [Act.put, List.getElem_toArray, List.getElem_cons_zero, List.setIfInBounds_toArray, List.set_cons_zero, List.set_cons_succ]
  refine wpAnyH_take (i := 1) (v := ?_) rfl (by kernel_rfl) (by kernel_rfl) (by kernel_rfl) (fun _ _ _ h => h) (Or.inl ⟨by rfl, ?_⟩) hHeld ?_
  rotate_left
  · (intro wa hSw; obtain ⟨bx, br, gr, hb⟩ := OS.out _ hSw; have d0 := bx.2 0 _ rfl; have d1 := bx.2 1 _ rfl; have d2 := bx.2 2 _ rfl; have d3 := bx.2 3 _ rfl; have d4 := bx.2 4 _ rfl; have d5 := bx.2 5 _ rfl; have d6 := bx.2 6 _ rfl; have d7 := bx.2 7 _ rfl; have d8 := bx.2 8 _ rfl; go_simp; try with_reducible rfl)
  simp only [Act.put, List.getElem_toArray, List.getElem_cons_zero, List.getElem_cons_succ, List.setIfInBounds_toArray, List.set_cons_zero, List.set_cons_succ]
  refine wpAnyH_take (i := 2) (v := ?_) rfl (by kernel_rfl) (by kernel_rfl) (by kernel_rfl) (fun _ _ _ h => h) (Or.inl ⟨by rfl, ?_⟩) hHeld ?_
  rotate_left
  · (intro wa hSw; obtain ⟨bx, br, gr, hb⟩ := OS.out _ hSw; skip; go_simp; try with_reducible rfl)
  simp only [Act.put, List.getElem_toArray, List.getElem_cons_zero, List.getElem_cons_succ, List.setIfInBounds_toArray, List.set_cons_zero, List.set_cons_succ]
  refine wpAnyH_take (i := 3) (v := ?_) rfl (by kernel_rfl) (by kernel_rfl) (by kernel_rfl) (fun _ _ _ h => h) (Or.inl ⟨by rfl, ?_⟩) hHeld ?_
  rotate_left
  · (intro wa hSw; obtain ⟨bx, br, gr, hb⟩ := OS.out _ hSw; have d0 := bx.2 0 _ rfl; have d1 := bx.2 1 _ rfl; have d2 := bx.2 2 _ rfl; have d3 := bx.2 3 _ rfl; have d4 := bx.2 4 _ rfl; have d5 := bx.2 5 _ rfl; have d6 := bx.2 6 _ rfl; have d7 := bx.2 7 _ rfl; have d8 := bx.2 8 _ rfl; go_simp; try with_reducible rfl)
  simp only [Act.put, List.getElem_toArray, List.getElem_cons_zero, List.getElem_cons_succ, List.setIfInBounds_toArray, List.set_cons_zero, List.set_cons_succ]
  refine wpAnyH_take (i := 4) (v := ?_) rfl (by kernel_rfl) (by kernel_rfl) (by kernel_rfl) (fun _ _ _ h => h) (Or.inl ⟨by rfl, ?_⟩) hHeld ?_
  rotate_left
  · (intro wa hSw; obtain ⟨bx, br, gr, hb⟩ := OS.out _ hSw; skip; go_simp; try with_reducible rfl)
  simp only [Act.put, List.getElem_toArray, List.getElem_cons_zero, List.getElem_cons_succ, List.setIfInBounds_toArray, List.set_cons_zero, List.set_cons_succ]
  refine wpAnyH_take (i := 5) (v := ?_) rfl (by kernel_rfl) (by kernel_rfl) (by kernel_rfl) (fun _ _ _ h => h) (Or.inl ⟨by rfl, ?_⟩) hHeld ?_
  rotate_left
  · (intro wa hSw; obtain ⟨bx, br, gr, hb⟩ := OS.out _ hSw; skip; go_simp; try with_reducible rfl)
  simp only [Act.put, List.getElem_toArray, List.getElem_cons_zero, List.getElem_cons_succ, List.setIfInBounds_toArray, List.set_cons_zero, List.set_cons_succ]
  refine wpAnyH_take (i := 6) (v := ?_) rfl (by kernel_rfl) (by kernel_rfl) (by kernel_rfl) (fun _ _ _ h => h) (Or.inl ⟨by rfl, ?_⟩) hHeld ?_
  rotate_left
  · (intro wa hSw; obtain ⟨bx, br, gr, hb⟩ := OS.out _ hSw; have d0 := bx.2 0 _ rfl; have d1 := bx.2 1 _ rfl; have d2 := bx.2 2 _ rfl; have d3 := bx.2 3 _ rfl; have d4 := bx.2 4 _ rfl; have d5 := bx.2 5 _ rfl; have d6 := bx.2 6 _ rfl; have d7 := bx.2 7 _ rfl; have d8 := bx.2 8 _ rfl; go_simp; try with_reducible rfl)
  simp only [Act.put, List.getElem_toArray, List.getElem_cons_zero, List.getElem_cons_succ, List.setIfInBounds_toArray, List.set_cons_zero, List.set_cons_succ]
  refine wpAnyH_take (i := 7) (v := ?_) rfl (by kernel_rfl) (by kernel_rfl) (by kernel_rfl) (fun _ _ _ h => h) (Or.inl ⟨by rfl, ?_⟩) hHeld ?_
  rotate_left
  · (intro wa hSw; obtain ⟨bx, br, gr, hb⟩ := OS.out _ hSw; skip; go_simp; try with_reducible rfl)
  simp only [Act.put, List.getElem_toArray, List.getElem_cons_zero, List.getElem_cons_succ, List.setIfInBounds_toArray, List.set_cons_zero, List.set_cons_succ]
  refine wpAnyH_take (i := 8) (v := ?_) rfl (by kernel_rfl) (by kernel_rfl) (by kernel_rfl) (fun _ _ _ h => h) (Or.inl ⟨by rfl, ?_⟩) hHeld ?_
  rotate_left
  · (intro wa hSw; obtain ⟨bx, br, gr, hb⟩ := OS.out _ hSw; skip; go_simp; try with_reducible rfl)
  simp only [Act.put, List.getElem_toArray, List.getElem_cons_zero, List.getElem_cons_succ, List.setIfInBounds_toArray, List.set_cons_zero, List.set_cons_succ]
  refine wpAnyH_ready (rs := [9]) (by kernel_rfl) (by simp) ?_
  refine AllReadyH.cons (o := _) rfl (fun K hK => ?_) AllReadyH.nil
  go_simp
  obtain ⟨bx, br, gr, hb⟩ := OS.out _ hHeld
  refine (CMU.out _).mono ?_
  rintro e w101 ⟨rfl, b101⟩
  clear bx br gr hb
  (try go_wp2_with fail)
  refine hK.out _ _ ?_ (fun hHeld101 => ?_)
  · exact KS.out _ _ hHeld b101
  clear hK K
  refine wpAnyH_take (i := 10) (v := ?_) rfl (by kernel_rfl) (by kernel_rfl) (by kernel_rfl) (fun _ _ _ h => h) (Or.inl ⟨by rfl, ?_⟩) hHeld101 ?_
  rotate_left
  · (intro wa hSw; obtain ⟨bx, br, gr, hb⟩ := OS.out _ hSw; skip; go_simp; try with_reducible rfl)
  simp only [Act.put, List.getElem_toArray, List.getElem_cons_zero, List.getElem_cons_succ, List.setIfInBounds_toArray, List.set_cons_zero, List.set_cons_succ]
  refine wpAnyH_ready (rs := [11]) (by kernel_rfl) (by simp) ?_
  refine AllReadyH.cons (o := _) rfl (fun K hK => ?_) AllReadyH.nil
  go_simp
  obtain ⟨bx, br, gr, hb⟩ := OS.out _ hHeld101
  refine (CAM.out _ br.2.2.1 gr).mono ?_
  rintro e w102 ⟨v7, xs7, rfl, ho7, hc7, b102⟩
  clear bx br gr hb
  have ho8 := Lib.hid ho7
  have hc8 := Lib.hid hc7
  clear ho7 hc7
  (try go_wp2_with fail)
  refine hK.out _ _ ?_ (fun hHeld102 => ?_)
  · exact KS.out _ _ hHeld101 b102
  clear hK K
  clear hHeld101
  refine wpAnyH_take (i := 12) (v := ?_) rfl (by kernel_rfl) (by kernel_rfl) (by kernel_rfl) (fun _ _ _ h => h) (Or.inl ⟨by rfl, ?_⟩) hHeld102 ?_
  rotate_left
  · (intro wa hSw; obtain ⟨bx, br, gr, hb⟩ := OS.out _ hSw; skip; go_simp; try with_reducible rfl)
  simp only [Act.put, List.getElem_toArray, List.getElem_cons_zero, List.getElem_cons_succ, List.setIfInBounds_toArray, List.set_cons_zero, List.set_cons_succ]
  refine wpAnyH_done (by kernel_rfl) ?_ _
  obtain ⟨bx, br, gr, hb⟩ := OS.out _ hHeld102
  clear KS OS hHeld hHeld102
  have RR := Lib.hid (show RowRow _ _ _ T from RecRow.of_owns ho8.out (by omega) hc8.out (fun _ _ => Nat.le_refl _))
  obtain ⟨s7a, s7c, rfl⟩ := owns_form ho8.out
  have HBR := Lib.hid br
  have HBX := Lib.hid bx
  have HHB := Lib.hid hb
  have o0 := World.ownsRow_lit (e := 3) (size := 1) w102 #[] 0 (Nat.le_refl _) (by decide) rfl
  have HO0 := Lib.hid o0
  have HB9 := Lib.hid ((Below.refl w102.heap.size w102).alloc (Nat.le_refl _) (.cells #[] 3))
  clear ho8 hc8 o0 br bx gr hb BX0 BR0 GR0 HB0
  go_wp2
  go_loopw [8, 27] (fun ov iv wr => ∃ k : Nat, k ≤ b.nf ∧ iv = .int .i64 k ∧ Hid (wr.ownsRow w102.heap.size 3 1 ov k ((valsL V k).map (Value.int .i64))) ∧ Hid (Below w102.heap.size w102 wr)) (fun _ iv _ => b.nf - (intOf iv).toNat)
  case atStart => exact ⟨0, Nat.zero_le _, rfl, HO0, HB9⟩
  case round =>
    clear HO0 HB9
    obtain ⟨k, hk, rfl, HO, HB⟩ := hrel
    by_cases hlt : k < b.nf
    · have RRw := RR.out.below HB.out (Nat.le_refl _)
      obtain ⟨b7, o7, rfl, hcap7, p7⟩ := row_of RRw hlt
      obtain ⟨c0, c1, c2, c3, c4, c5, c6⟩ := row_cells p7
      have BRw := HBR.out.below HB.out (Nat.le_refl _)
      obtain ⟨q1, p1, rfl, hcq, u1⟩ : ∃ bo off, qa = some ⟨bo, off, none⟩ ∧ b.nfa ≤ qc ∧ wr.cell? ⟨bo, off + k, none⟩ = some (.int .i64 (b.fa k)) := int_at BRw.2.2.2.1 (by have := HFA.out; omega)
      obtain ⟨q2, p2, rfl, hct, u2⟩ : ∃ bo off, ta = some ⟨bo, off, none⟩ ∧ b.nta ≤ tc ∧ wr.cell? ⟨bo, off + k, none⟩ = some (.int .i64 (b.ta k)) := int_at BRw.2.2.2.2 (by have := HTA.out; omega)
      obtain ⟨q3, p3, rfl, hcf, u3⟩ : ∃ bo off, fa = some ⟨bo, off, none⟩ ∧ b.nf ≤ fc ∧ wr.cell? ⟨bo, off + k * 3 + 2, none⟩ = some (.int .i64 (b.f k).seed) := by
        obtain ⟨a, cap, he, _, hc⟩ := BRw.1.form'
        simp only [Value.slice.injEq, true_and] at he
        obtain ⟨rfl, rfl⟩ := he
        obtain ⟨bo, off, rfl, hcc, hcs⟩ := hc (by omega)
        exact ⟨bo, off, rfl, hcc, (hcs k hlt).2.2⟩
      have hq1 : q1 < wr.heap.size := World.block_lt_of_cell? wr _ u1
      have hq2 : q2 < wr.heap.size := World.block_lt_of_cell? wr _ u2
      have hq3 : q3 < wr.heap.size := World.block_lt_of_cell? wr _ u3
      have e1 : (k : Int) < b.nfa := by have := HFA.out; omega
      have e2 : (k : Int) < b.nta := by have := HTA.out; omega
      have e3 : (k : Int) < b.nf := by omega
      have e1n : k < b.nfa := by omega
      have e2n : k < b.nta := by omega
      have x3 := (HBX.out.below HB.out).2 0 _ rfl
      have x7 := (HBX.out.below HB.out).2 7 _ rfl
      have x8 := (HBX.out.below HB.out).2 8 _ rfl
      have hBl := HBX.out.1
      have hBl2 : w.heap.size < wr.heap.size := Nat.lt_of_lt_of_le hBl HB.out.size
      have HVk0 := Lib.hid (HVd.out k)
      generalize T k = y at *
      generalize b.fa k = fk at *
      generalize b.ta k = tk at *
      generalize (b.f k).seed = sk at *
      have hsz := HB.out.size
      have hg0 : Below wr.heap.size wr (wr.alloc (.cells #[.int .i64 y.played, .int .i64 y.wins, .int .i64 y.draws, .int .i64 y.losses, .int .i64 y.scored, .int .i64 y.against, .int .i64 y.points] 139)) := (Below.refl _ _).alloc (Nat.le_refl _) _
      have hown2 := owns_below HO.out hg0 (Nat.le_refl _)
      have hb2 := Lib.hid (HB.out.trans (hg0.mono hsz))
      have hsz2 := hb2.out.size
      have hk64 : k + 1 ≤ maxLen := by unfold maxLen; omega
      have CDF := Lib.hid (fun wa => differenceOf_spec y wa)
      clear HO HB RRw BRw hg0 p7
      by_cases k1 : key = 1
      · subst k1
        have HVk : Hid (V k = wrap64 (y.points - tk)) := HVk0.out.trans (by unfold valD; simp)
        clear HVk0
        go_wp2
        go_quiet (fail)
        go_wp2_with (at_builtin; refine wpList_pushL rfl (.tmp 77) (.tmp 79) 24 rfl w102.heap.size 3 Try.underlying24 hi hz0 hz1 hz2 rfl (by decide) [.int .i64 (wrap64 (y.points - tk))] rfl (by intro u hu; simp at hu; subst hu; rfl) rfl (by show Value.slice (some ⟨_, 0, none⟩) 1 1 = _; simp) (owns_drewN hown2) hk64 (by omega) hsz2 ?_; intro gg5 cc5 w5 o5 g5 at5 lt5)
        have hHB := Lib.hid ((below_drewN hb2.out _).grown g5 hsz2 (fun q hq => (hown2.lt q hq).1))
        have hO5 : Hid (w5.ownsRow w102.heap.size 3 1 (.slice (some ⟨gg5, 0, none⟩) (k + 1) cc5) (k + 1) ((valsL V (k + 1)).map (Value.int .i64))) := by rw [valsL_succ, List.map_append, HVk.out]; exact o5
        clear o5 g5 at5 hown2 HVk
        go_roundw
        case rel => exact ⟨k + 1, by omega, by go_num, hO5, hHB⟩
        case measure => simp [intOf]; omega
      have g1 : (key == 1) = false := beq_eq_false_iff_ne.2 k1
      by_cases k5 : key = 5
      · subst k5
        have HVk : Hid (V k = y.points) := HVk0.out.trans (by unfold valD; simp)
        clear HVk0
        go_wp2_with (at_builtin; refine wpList_pushL rfl (.tmp 77) (.tmp 79) 24 rfl w102.heap.size 3 Try.underlying24 hi hz0 hz1 hz2 rfl (by decide) [.int .i64 (y.points)] rfl (by intro u hu; simp at hu; subst hu; rfl) rfl (by show Value.slice (some ⟨_, 0, none⟩) 1 1 = _; simp) hown2 hk64 (by omega) hsz2 ?_; intro gg5 cc5 w5 o5 g5 at5 lt5)
        have hHB := Lib.hid (hb2.out.grown g5 hsz2 (fun q hq => (hown2.lt q hq).1))
        have hO5 : Hid (w5.ownsRow w102.heap.size 3 1 (.slice (some ⟨gg5, 0, none⟩) (k + 1) cc5) (k + 1) ((valsL V (k + 1)).map (Value.int .i64))) := by rw [valsL_succ, List.map_append, HVk.out]; exact o5
        clear o5 g5 at5 hown2 HVk
        go_roundw
        case rel => exact ⟨k + 1, by omega, by go_num, hO5, hHB⟩
        case measure => simp [intOf]; omega
      have g5 : (key == 5) = false := beq_eq_false_iff_ne.2 k5
      by_cases k2 : key = 2
      · subst k2
        have HVk : Hid (V k = wrap64 (y.scored - y.against)) := HVk0.out.trans (by unfold valD; simp)
        clear HVk0
        go_wp2_with fail
        refine (CDF.out _).mono ?_
        rintro e wd ⟨rfl, bd⟩
        replace hown2 := owns_below hown2 bd (Nat.le_refl _)
        replace hb2 := Lib.hid (hb2.out.trans (bd.mono hsz2))
        replace hsz2 := hb2.out.size
        clear bd
        go_wp2_with (at_builtin; refine wpList_pushL rfl (.tmp 77) (.tmp 79) 24 rfl w102.heap.size 3 Try.underlying24 hi hz0 hz1 hz2 rfl (by decide) [.int .i64 (wrap64 (y.scored - y.against))] rfl (by intro u hu; simp at hu; subst hu; rfl) rfl (by show Value.slice (some ⟨_, 0, none⟩) 1 1 = _; simp) hown2 hk64 (by omega) hsz2 ?_; intro gg5 cc5 w5 o5 g5 at5 lt5)
        have hHB := Lib.hid (hb2.out.grown g5 hsz2 (fun q hq => (hown2.lt q hq).1))
        have hO5 : Hid (w5.ownsRow w102.heap.size 3 1 (.slice (some ⟨gg5, 0, none⟩) (k + 1) cc5) (k + 1) ((valsL V (k + 1)).map (Value.int .i64))) := by rw [valsL_succ, List.map_append, HVk.out]; exact o5
        clear o5 g5 at5 hown2 HVk
        go_roundw
        case rel => exact ⟨k + 1, by omega, by go_num, hO5, hHB⟩
        case measure => simp [intOf]; omega
      have g2 : (key == 2) = false := beq_eq_false_iff_ne.2 k2
      by_cases k6 : key = 6
      · subst k6
        have HVk : Hid (V k = wrap64 (y.scored - y.against)) := HVk0.out.trans (by unfold valD; simp)
        clear HVk0
        go_wp2_with fail
        refine (CDF.out _).mono ?_
        rintro e wd ⟨rfl, bd⟩
        replace hown2 := owns_below hown2 bd (Nat.le_refl _)
        replace hb2 := Lib.hid (hb2.out.trans (bd.mono hsz2))
        replace hsz2 := hb2.out.size
        clear bd
        go_wp2_with (at_builtin; refine wpList_pushL rfl (.tmp 77) (.tmp 79) 24 rfl w102.heap.size 3 Try.underlying24 hi hz0 hz1 hz2 rfl (by decide) [.int .i64 (wrap64 (y.scored - y.against))] rfl (by intro u hu; simp at hu; subst hu; rfl) rfl (by show Value.slice (some ⟨_, 0, none⟩) 1 1 = _; simp) hown2 hk64 (by omega) hsz2 ?_; intro gg5 cc5 w5 o5 g5 at5 lt5)
        have hHB := Lib.hid (hb2.out.grown g5 hsz2 (fun q hq => (hown2.lt q hq).1))
        have hO5 : Hid (w5.ownsRow w102.heap.size 3 1 (.slice (some ⟨gg5, 0, none⟩) (k + 1) cc5) (k + 1) ((valsL V (k + 1)).map (Value.int .i64))) := by rw [valsL_succ, List.map_append, HVk.out]; exact o5
        clear o5 g5 at5 hown2 HVk
        go_roundw
        case rel => exact ⟨k + 1, by omega, by go_num, hO5, hHB⟩
        case measure => simp [intOf]; omega
      have g6 : (key == 6) = false := beq_eq_false_iff_ne.2 k6
      by_cases k3 : key = 3
      · subst k3
        have HVk : Hid (V k = y.scored) := HVk0.out.trans (by unfold valD; simp)
        clear HVk0
        go_wp2_with (at_builtin; refine wpList_pushL rfl (.tmp 77) (.tmp 79) 24 rfl w102.heap.size 3 Try.underlying24 hi hz0 hz1 hz2 rfl (by decide) [.int .i64 (y.scored)] rfl (by intro u hu; simp at hu; subst hu; rfl) rfl (by show Value.slice (some ⟨_, 0, none⟩) 1 1 = _; simp) hown2 hk64 (by omega) hsz2 ?_; intro gg5 cc5 w5 o5 g5 at5 lt5)
        have hHB := Lib.hid (hb2.out.grown g5 hsz2 (fun q hq => (hown2.lt q hq).1))
        have hO5 : Hid (w5.ownsRow w102.heap.size 3 1 (.slice (some ⟨gg5, 0, none⟩) (k + 1) cc5) (k + 1) ((valsL V (k + 1)).map (Value.int .i64))) := by rw [valsL_succ, List.map_append, HVk.out]; exact o5
        clear o5 g5 at5 hown2 HVk
        go_roundw
        case rel => exact ⟨k + 1, by omega, by go_num, hO5, hHB⟩
        case measure => simp [intOf]; omega
      have g3 : (key == 3) = false := beq_eq_false_iff_ne.2 k3
      by_cases k4 : key = 4
      · subst k4
        have HVk : Hid (V k = y.wins) := HVk0.out.trans (by unfold valD; simp)
        clear HVk0
        go_wp2_with (at_builtin; refine wpList_pushL rfl (.tmp 77) (.tmp 79) 24 rfl w102.heap.size 3 Try.underlying24 hi hz0 hz1 hz2 rfl (by decide) [.int .i64 (y.wins)] rfl (by intro u hu; simp at hu; subst hu; rfl) rfl (by show Value.slice (some ⟨_, 0, none⟩) 1 1 = _; simp) hown2 hk64 (by omega) hsz2 ?_; intro gg5 cc5 w5 o5 g5 at5 lt5)
        have hHB := Lib.hid (hb2.out.grown g5 hsz2 (fun q hq => (hown2.lt q hq).1))
        have hO5 : Hid (w5.ownsRow w102.heap.size 3 1 (.slice (some ⟨gg5, 0, none⟩) (k + 1) cc5) (k + 1) ((valsL V (k + 1)).map (Value.int .i64))) := by rw [valsL_succ, List.map_append, HVk.out]; exact o5
        clear o5 g5 at5 hown2 HVk
        go_roundw
        case rel => exact ⟨k + 1, by omega, by go_num, hO5, hHB⟩
        case measure => simp [intOf]; omega
      have g4 : (key == 4) = false := beq_eq_false_iff_ne.2 k4
      by_cases k7 : key = 7
      · subst k7
        have HVk : Hid (V k = wrap64 (-fk)) := HVk0.out.trans (by unfold valD; simp)
        clear HVk0
        go_wp2_with (at_builtin; refine wpList_pushL rfl (.tmp 77) (.tmp 79) 24 rfl w102.heap.size 3 Try.underlying24 hi hz0 hz1 hz2 rfl (by decide) [.int .i64 (wrap64 (-fk))] rfl (by intro u hu; simp at hu; subst hu; rfl) rfl (by show Value.slice (some ⟨_, 0, none⟩) 1 1 = _; simp) hown2 hk64 (by omega) hsz2 ?_; intro gg5 cc5 w5 o5 g5 at5 lt5)
        have hHB := Lib.hid (hb2.out.grown g5 hsz2 (fun q hq => (hown2.lt q hq).1))
        have hO5 : Hid (w5.ownsRow w102.heap.size 3 1 (.slice (some ⟨gg5, 0, none⟩) (k + 1) cc5) (k + 1) ((valsL V (k + 1)).map (Value.int .i64))) := by rw [valsL_succ, List.map_append, HVk.out]; exact o5
        clear o5 g5 at5 hown2 HVk
        go_roundw
        case rel => exact ⟨k + 1, by omega, by go_num, hO5, hHB⟩
        case measure => simp [intOf]; omega
      have g7 : (key == 7) = false := beq_eq_false_iff_ne.2 k7
      by_cases k8 : key = 8
      · subst k8
        have HVk : Hid (V k = wrap64 (-sk)) := HVk0.out.trans (by unfold valD; simp)
        clear HVk0
        go_wp2_with (at_builtin; refine wpList_pushL rfl (.tmp 77) (.tmp 79) 24 rfl w102.heap.size 3 Try.underlying24 hi hz0 hz1 hz2 rfl (by decide) [.int .i64 (wrap64 (-sk))] rfl (by intro u hu; simp at hu; subst hu; rfl) rfl (by show Value.slice (some ⟨_, 0, none⟩) 1 1 = _; simp) hown2 hk64 (by omega) hsz2 ?_; intro gg5 cc5 w5 o5 g5 at5 lt5)
        have hHB := Lib.hid (hb2.out.grown g5 hsz2 (fun q hq => (hown2.lt q hq).1))
        have hO5 : Hid (w5.ownsRow w102.heap.size 3 1 (.slice (some ⟨gg5, 0, none⟩) (k + 1) cc5) (k + 1) ((valsL V (k + 1)).map (Value.int .i64))) := by rw [valsL_succ, List.map_append, HVk.out]; exact o5
        clear o5 g5 at5 hown2 HVk
        go_roundw
        case rel => exact ⟨k + 1, by omega, by go_num, hO5, hHB⟩
        case measure => simp [intOf]; omega
      have g8 : (key == 8) = false := beq_eq_false_iff_ne.2 k8
      have HVk : Hid (V k = 0) := HVk0.out.trans (by unfold valD; simp [k1, k2, k3, k4, k5, k6, k7, k8])
      clear HVk0 k1 k2 k3 k4 k5 k6 k7 k8
      go_wp2_with (at_builtin; refine wpList_pushL rfl (.tmp 77) (.tmp 79) 24 rfl w102.heap.size 3 Try.underlying24 hi hz0 hz1 hz2 rfl (by decide) [.int .i64 (0)] rfl (by intro u hu; simp at hu; subst hu; rfl) rfl (by show Value.slice (some ⟨_, 0, none⟩) 1 1 = _; simp) hown2 hk64 (by omega) hsz2 ?_; intro gg5 cc5 w5 o5 g5 at5 lt5)
      have hHB := Lib.hid (hb2.out.grown g5 hsz2 (fun q hq => (hown2.lt q hq).1))
      have hO5 : Hid (w5.ownsRow w102.heap.size 3 1 (.slice (some ⟨gg5, 0, none⟩) (k + 1) cc5) (k + 1) ((valsL V (k + 1)).map (Value.int .i64))) := by rw [valsL_succ, List.map_append, HVk.out]; exact o5
      clear o5 g5 at5 hown2 HVk
      go_roundw
      case rel => exact ⟨k + 1, by omega, by go_num, hO5, hHB⟩
      case measure => simp [intOf]; omega
    · obtain rfl : b.nf = k := by omega
      have hbE := HHB.out.trans (HB.out.mono HHB.out.size)
      have hoE := owns_mono HO.out HHB.out.size
      go_wp2
      go_ret
      have hlen : (valsL V b.nf).length = b.nf := by unfold valsL; simp
      exact ⟨_, rfl, by rw [hlen]; exact hoE, hbE⟩

end Go.Proofs.Ytojkonhhaamodaa
set_option linter.unusedVariables false
namespace Go.Proofs.Ytojkonhhaamodaa
open Go.RowKit

/-- the value is asked of a valid book and a team of its field -/
def keyP (b : BookD) (team : Int) : Prop := bookP b ∧ 0 ≤ team ∧ team ≤ b.nf - 1
end Go.Proofs.Ytojkonhhaamodaa
set_option linter.unusedVariables false
namespace Go.Proofs.Ytojkonhhaamodaa
open Go.RowKit

/-- all teams of a group exist -/
def teamsP (n : Nat) (ng : Nat) (gg : Nat → Int) : Prop := ∀ i, i < ng → 0 ≤ gg i ∧ gg i ≤ (n : Int) - 1
theorem l07Teams_spec (vf vl vg vfa vta : Value) (b : BookD) (gv : Value) (ng : Nat) (gg : Nat → Int) (R : Bool) (w : World) (hR : R = true ↔ teamsP b.nf ng gg) (h : BookRow w vf vl vg vfa vta b) (hgv : IntRow w gv ng gg) :
    Calls Try.prog 89 #[.agg #[vf, .int .i64 b.win, .int .i64 b.draw, .int .i64 b.loss, vl, .bool b.again, vg, vfa, vta], gv] w fun e w' => e = .returned (.bool R) ∧ Below w.heap.size w w' := by
  obtain ⟨fa, fc, la, lc, ga, gc, qa, qc, ta, tc, rfl, rfl, rfl, rfl, rfl⟩ := h.form
  have hn64 : (b.nf : Int) ≤ 9223372036854775807 := by obtain ⟨_, _, _, hq, _⟩ := h.1.form; omega
  have HN := Lib.hid (boolF hR)
  have HY := Lib.hid (boolT hR)
  obtain ⟨xa, xc, rfl, hx64, _⟩ := hgv.form
  have b0 := (Below.refl w.heap.size w).alloc (Nat.le_refl _) (.cells #[.slice fa b.nf fc, .int .i64 b.win, .int .i64 b.draw, .int .i64 b.loss, .slice la b.nl lc, .bool b.again, .slice ga b.m gc, .slice qa b.nfa qc, .slice ta b.nta tc] 29)
  have BX0 := Lib.hid (BoxN.made (Below.refl (w.alloc (.cells #[.slice fa b.nf fc, .int .i64 b.win, .int .i64 b.draw, .int .i64 b.loss, .slice la b.nl lc, .bool b.again, .slice ga b.m gc, .slice qa b.nfa qc, .slice ta b.nta tc] 29)).heap.size (w.alloc (.cells #[.slice fa b.nf fc, .int .i64 b.win, .int .i64 b.draw, .int .i64 b.loss, .slice la b.nl lc, .bool b.again, .slice ga b.m gc, .slice qa b.nfa qc, .slice ta b.nta tc] 29))) (B := w.heap.size) rfl)
  have GR0 := Lib.hid (hgv.below b0 (Nat.le_refl _))
  have HB0 := Lib.hid b0
  clear hR h hgv b0
  go_enter Try.func89, Try.ntmps89
  go_wp2
  go_loop [9] (fun i => ∃ k : Nat, k ≤ ng ∧ i = .int .i64 k ∧ Hid (∀ i, i < k → 0 ≤ gg i ∧ gg i ≤ (b.nf : Int) - 1)) (fun i => ng - (intOf i).toNat)
  case atStart => exact ⟨0, Nat.zero_le _, rfl, fun i hi => absurd hi (by omega)⟩
  case round =>
    obtain ⟨k, hk, rfl, hok⟩ := hrel
    by_cases hlt : k < ng
    · obtain ⟨q1, p1, rfl, hcq, u1⟩ := int_at GR0.out hlt
      have d0 := BX0.out.2 0 _ rfl
      have hS : Hid ((0 ≤ gg k ∧ gg k ≤ (b.nf : Int) - 1) → ∀ i, i < k + 1 → 0 ≤ gg i ∧ gg i ≤ (b.nf : Int) - 1) := fun h i hi => by
        by_cases hik : i = k
        · subst hik; exact h
        · exact hok.out i (by omega)
      have HNk := Lib.hid (fun (h : ¬ (0 ≤ gg k ∧ gg k ≤ (b.nf : Int) - 1)) => HN.out fun hp => h (hp k hlt))
      have hlt' : (k : Int) < ng := by omega
      clear hok HN HY
      generalize gg k = x at *
      by_cases hx : 0 ≤ x ∧ x ≤ (b.nf : Int) - 1
      case neg =>
        obtain rfl := HNk.out hx
        clear HNk hS
        go_wp2_with (go_at_call 45; refine (l01In_no _ _ _ _ hx).mono ?_; rintro e w2 ⟨rfl, rfl⟩)
        go_ret
        exact ⟨rfl, HB0.out⟩
      have HSk := Lib.hid (hS.out hx)
      clear HNk hS
      go_wp2_with (go_at_call 45; refine (l01In_yes _ _ _ _ hx).mono ?_; rintro e w2 ⟨rfl, rfl⟩)
      go_round
      case rel => exact ⟨k + 1, by omega, by go_num, HSk.out⟩
      case measure => simp [intOf]; omega
    · obtain rfl : ng = k := by omega
      obtain rfl := HY.out hok.out
      clear HN HY hok
      go_wp2
      go_ret
      exact ⟨rfl, HB0.out⟩
theorem l07All_spec (vf vl vg vfa vta : Value) (b : BookD) (w : World) (h : BookRow w vf vl vg vfa vta b) (hn6 : b.nf ≤ 1048576) :
    Calls Try.prog 78 #[.agg #[vf, .int .i64 b.win, .int .i64 b.draw, .int .i64 b.loss, vl, .bool b.again, vg, vfa, vta]] w (IntsL w (valsL (fun i => (i : Int)) b.nf)) := by
  obtain ⟨i0, hi, hz0, hz1, hz2⟩ := info_parts Try.infoI
  obtain ⟨fa, fc, la, lc, ga, gc, qa, qc, ta, tc, rfl, rfl, rfl, rfl, rfl⟩ := h.form
  have b0 := (Below.refl w.heap.size w).alloc (Nat.le_refl _) (.cells #[.slice fa b.nf fc, .int .i64 b.win, .int .i64 b.draw, .int .i64 b.loss, .slice la b.nl lc, .bool b.again, .slice ga b.m gc, .slice qa b.nfa qc, .slice ta b.nta tc] 29)
  have BX0 := BoxN.made (Below.refl (w.alloc (.cells #[.slice fa b.nf fc, .int .i64 b.win, .int .i64 b.draw, .int .i64 b.loss, .slice la b.nl lc, .bool b.again, .slice ga b.m gc, .slice qa b.nfa qc, .slice ta b.nta tc] 29)).heap.size (w.alloc (.cells #[.slice fa b.nf fc, .int .i64 b.win, .int .i64 b.draw, .int .i64 b.loss, .slice la b.nl lc, .bool b.again, .slice ga b.m gc, .slice qa b.nfa qc, .slice ta b.nta tc] 29))) (B := w.heap.size) rfl
  have d0 := BX0.2 0 _ rfl
  have hl0 := BX0.1
  have o0 := World.ownsRow_lit (e := 3) (size := 1) (w.alloc (.cells #[.slice fa b.nf fc, .int .i64 b.win, .int .i64 b.draw, .int .i64 b.loss, .slice la b.nl lc, .bool b.again, .slice ga b.m gc, .slice qa b.nfa qc, .slice ta b.nta tc] 29)) #[] 0 (Nat.le_refl _) (by decide) rfl
  have HO0 := Lib.hid (owns_mono (base' := w.heap.size) o0 (by simp))
  have HB0 := Lib.hid (b0.alloc (by simp) (.cells #[] 3))
  have es : (w.alloc (.cells #[.slice fa b.nf fc, .int .i64 b.win, .int .i64 b.draw, .int .i64 b.loss, .slice la b.nl lc, .bool b.again, .slice ga b.m gc, .slice qa b.nfa qc, .slice ta b.nta tc] 29)).heap.size = w.heap.size + 1 := by simp
  rw [es] at HO0
  clear h b0 BX0 o0 es
  go_enter Try.func78, Try.ntmps78
  go_wp2
  go_loopw [3, 9] (fun ov iv wr => ∃ k : Nat, k ≤ b.nf ∧ iv = .int .i64 k ∧ Hid (wr.ownsRow w.heap.size 3 1 ov k ((valsL (fun i => (i : Int)) k).map (Value.int .i64))) ∧ Hid (Below w.heap.size w wr)) (fun _ iv _ => b.nf - (intOf iv).toNat)
  case atStart => exact ⟨0, Nat.zero_le _, rfl, HO0, HB0⟩
  case round =>
    clear HO0 HB0 d0 hl0
    obtain ⟨k, hk, rfl, HO, HB⟩ := hrel
    by_cases hlt : k < b.nf
    · have hown := HO.out
      have hsz := HB.out.size
      have hk64 : k + 1 ≤ maxLen := by unfold maxLen; omega
      go_wp2_with (at_builtin; refine wpList_pushL rfl (.tmp 12) (.tmp 14) 24 rfl w.heap.size 3 Try.underlying24 hi hz0 hz1 hz2 rfl (by decide) [.int .i64 k] rfl (by intro u hu; simp at hu; subst hu; rfl) rfl (by show Value.slice (some ⟨_, 0, none⟩) 1 1 = _; simp) hown hk64 (by omega) hsz ?_; intro gg5 cc5 w5 o5 g5 at5 lt5)
      have hHB := Lib.hid (HB.out.grown g5 hsz (fun q hq => (hown.lt q hq).1))
      have hO5 : Hid (w5.ownsRow w.heap.size 3 1 (.slice (some ⟨gg5, 0, none⟩) (k + 1) cc5) (k + 1) ((valsL (fun i => (i : Int)) (k + 1)).map (Value.int .i64))) := by rw [valsL_succ, List.map_append]; exact o5
      clear o5 g5 at5 hown HO HB
      go_roundw
      case rel => exact ⟨k + 1, by omega, by go_num, hO5, hHB⟩
      case measure => simp [intOf]; omega
    · obtain rfl : b.nf = k := by omega
      have hlen : (valsL (fun i => (i : Int)) b.nf).length = b.nf := by unfold valsL; simp
      go_wp2
      go_ret
      exact ⟨_, rfl, by rw [hlen]; exact HO.out, HB.out⟩
end Go.Proofs.Ytojkonhhaamodaa
set_option linter.unusedVariables false
namespace Go.Proofs.Ytojkonhhaamodaa
open Go.RowKit

/-- the list L with u put in at j -/
def gapA {α : Type} (L : List α) (j : Nat) (u : α) : List α := L.take j ++ u :: L.drop j
section
variable {α β : Type} {L : List α} {j : Nat} {u x : α}
theorem gapA_len (h : j ≤ L.length) : (gapA L j u).length = L.length + 1 := by
  unfold gapA; simp; omega
theorem gapA_get {i : Nat} (h : i < j) (hj : j ≤ L.length) : (gapA L j u)[i]? = L[i]? := by
  unfold gapA
  rw [List.getElem?_append_left (by simp; omega), List.getElem?_take_of_lt h]
theorem gapA_set (hj : j ≤ L.length) : (gapA L j u).set j x = gapA L j x := by
  unfold gapA
  rw [List.set_append_right _ _ (by simp; omega)]
  simp [Nat.min_eq_left hj]
theorem gapA_step (h : L[j]? = some x) : gapA L (j + 1) x = gapA L j x := by
  have hj : j < L.length := (List.getElem?_eq_some_iff.1 h).1
  have hx : L[j] = x := (List.getElem?_eq_some_iff.1 h).2
  unfold gapA
  rw [(List.take_append_getElem hj).symm, List.drop_eq_getElem_cons hj, hx]
  simp only [List.append_assoc, List.cons_append, List.nil_append]
theorem gapA_end : gapA L L.length u = L ++ [u] := by
  unfold gapA; simp
theorem gapA_map (f : α → β) : (gapA L j u).map f = gapA (L.map f) j (f u) := by
  unfold gapA; simp
theorem gapA_mem {y : α} (h : y ∈ gapA L j u) : y = u ∨ y ∈ L := by
  unfold gapA at h
  rcases List.mem_append.1 h with h | h
  · exact .inr (List.mem_of_mem_take h)
  · rcases List.mem_cons.1 h with h | h
    · exact .inl h
    · exact .inr (List.mem_of_mem_drop h)
theorem gapA_pairwise {R : α → α → Prop} (hL : L.Pairwise R) (h1 : ∀ y ∈ L, R y u) (h2 : ∀ y ∈ L, R u y) : (gapA L j u).Pairwise R := by
  unfold gapA
  rw [List.pairwise_append, List.pairwise_cons]
  refine ⟨hL.sublist (List.take_sublist _ _), ⟨fun y hy => h2 y (List.mem_of_mem_drop hy), hL.sublist (List.drop_sublist _ _)⟩, fun a ha b hb => ?_⟩
  rcases List.mem_cons.1 hb with rfl | hb
  · exact h1 a (List.mem_of_mem_take ha)
  · have h3 : (L.take j ++ L.drop j).Pairwise R := by rw [List.take_append_drop]; exact hL
    exact (List.pairwise_append.1 h3).2.2 a ha b hb
end
/-- how many at the front have a value above v -/
def leadV {α : Type} (f : α → Int) (v : Int) : List α → Nat
  | [] => 0
  | y :: L => if v < f y then leadV f v L + 1 else 0
section
variable {α : Type} {f : α → Int} {v : Int}
theorem leadV_le (L : List α) : leadV f v L ≤ L.length := by
  induction L with
  | nil => exact Nat.le_refl _
  | cons y L ih => unfold leadV; split <;> simp <;> omega
theorem leadV_lt (L : List α) : ∀ i x, i < leadV f v L → L[i]? = some x → v < f x := by
  induction L with
  | nil => intro i x hi; exact absurd hi (by simp [leadV])
  | cons y L ih =>
    intro i x hi hx
    unfold leadV at hi
    split at hi
    · next h =>
      cases i with
      | zero => simp at hx; rw [← hx]; exact h
      | succ i => exact ih i x (by omega) (by simpa using hx)
    · omega
theorem leadV_ge (L : List α) : ∀ x, L[leadV f v L]? = some x → ¬ v < f x := by
  induction L with
  | nil => intro x h; simp at h
  | cons y L ih =>
    intro x h
    unfold leadV at h
    split at h
    · next hy => exact ih x (by simpa using h)
    · next hy => simp at h; rw [← h]; exact hy
end
/-- groups with their values, highest first: t with the value v put in -/
def insP (v t : Int) : List (Int × List Int) → List (Int × List Int)
  | [] => [(v, [t])]
  | (u, p) :: r => if v < u then (u, p) :: insP v t r else if u = v then (u, p ++ [t]) :: r else (v, [t]) :: (u, p) :: r
theorem insP_new (v t : Int) : ∀ L : List (Int × List Int), (∀ x, L[leadV Prod.fst v L]? = some x → x.1 ≠ v) → insP v t L = gapA L (leadV Prod.fst v L) (v, [t])
  | [], _ => rfl
  | (u, p) :: r, h => by
    unfold insP leadV
    by_cases hu : v < u
    · rw [if_pos hu, if_pos hu, insP_new v t r (fun x hx => h x (by unfold leadV; rw [if_pos hu]; simpa using hx))]
      simp [gapA]
    · rw [if_neg hu, if_neg hu]
      have : u ≠ v := h (u, p) (by unfold leadV; rw [if_neg hu]; rfl)
      rw [if_neg this]
      simp [gapA]
theorem insP_old (v t : Int) : ∀ (L : List (Int × List Int)) (p : List Int), L[leadV Prod.fst v L]? = some (v, p) → insP v t L = L.set (leadV Prod.fst v L) (v, p ++ [t])
  | [], p, h => by simp at h
  | (u, q) :: r, p, h => by
    unfold insP
    unfold leadV at h ⊢
    by_cases hu : v < u
    · rw [if_pos hu] at h ⊢
      rw [if_pos hu, insP_old v t r p (by simpa using h)]
      simp
    · rw [if_neg hu] at h ⊢
      simp only [List.getElem?_cons_zero, Option.some.injEq, Prod.mk.injEq] at h
      obtain ⟨rfl, rfl⟩ := h
      rw [if_neg hu, if_pos rfl]
      simp
/-- the groups of the first k of gg by their values -/
def splitP (V : Nat → Int) (gg : Nat → Int) : Nat → List (Int × List Int)
  | 0 => []
  | k + 1 => insP (V (gg k).toNat) (gg k) (splitP V gg k)
/-- no two of the slices lie in one block -/
def ApartV (v v' : Value) : Prop := ∀ k, v.ownBlock = some k → v'.ownBlock ≠ some k
theorem ApartV.symm {v v' : Value} (h : ApartV v v') : ApartV v' v := fun k h1 h2 => h k h2 h1
def ApartL (l : List Value) : Prop := l.Pairwise ApartV
/-- the slices of T hold its lists, each in a block of its own -/
def OwnT (w : World) (base : Nat) (e : TypeId) (T : List (Int × Value × List Int)) : Prop := ∀ x ∈ T, w.ownsRow base e 1 x.2.1 x.2.2.length (x.2.2.map (Value.int .i64))
theorem OwnT.kept {w w' : World} {base : Nat} {e : TypeId} {T : List (Int × Value × List Int)} {row : Option Nat} (h : OwnT w base e T) (hg : w.grownBy w' row) (hne : ∀ x ∈ T, ∀ k, x.2.1.ownBlock = some k → row ≠ some k) : OwnT w' base e T := fun x hx =>
  (h x hx).kept hg (by
    cases hv : x.2.1.ownBlock with
    | none => exact .inl rfl
    | some k => exact .inr fun e => hne x hx k hv e.symm)
theorem OwnT.below {w w' : World} {base B : Nat} {e : TypeId} {T : List (Int × Value × List Int)} (h : OwnT w base e T) (hb : Below B w w') (hB : w.heap.size ≤ B) : OwnT w' base e T := fun x hx => owns_below (h x hx) hb hB
theorem OwnT.lt {w : World} {base : Nat} {e : TypeId} {T : List (Int × Value × List Int)} (h : OwnT w base e T) {x : Int × Value × List Int} (hx : x ∈ T) {k : Nat} (hk : x.2.1.ownBlock = some k) : base ≤ k ∧ k < w.heap.size := (h x hx).lt k hk
theorem OwnT.mono {w : World} {base base' : Nat} {e : TypeId} {T : List (Int × Value × List Int)} (h : OwnT w base e T) (hb : base' ≤ base) : OwnT w base' e T := fun x hx => owns_mono (h x hx) hb
end Go.Proofs.Ytojkonhhaamodaa
