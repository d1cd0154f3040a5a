/-
  Fields: the model's OfClub, SeedOrder, ClubsOf.
-/
import Derived.Test.YtmghnhjfkecaaaaField
import Derived.Test.YtmghnhjfkecaaaaInts
set_option linter.unusedVariables false
namespace Go.Proofs.Ytmghnhjfkecaaaa
open Go.RowKit

/-- the call makes a slice that holds L and owns its memory -/
def NumsMade (w : World) (L : List Int) (e : Ending) (w' : World) : Prop :=
  ∃ v, e = .returned v ∧ w'.ownsRow w.heap.size 3 1 v L.length (L.map (Value.int .i64)) ∧ Below w.heap.size w w'
/-- the indices below k whose number f is c -/
def selL (f : Nat → Int) (c : Int) : Nat → List Int
  | 0 => []
  | k + 1 => selL f c k ++ if f k = c then [(k : Int)] else []
theorem selL_yes {f : Nat → Int} {c : Int} {k : Nat} (h : f k = c) : selL f c (k + 1) = selL f c k ++ [(k : Int)] := by simp [selL, h]
theorem selL_no {f : Nat → Int} {c : Int} {k : Nat} (h : f k ≠ c) : selL f c (k + 1) = selL f c k := by simp [selL, h]
theorem selL_len (f : Nat → Int) (c : Int) : ∀ k, (selL f c k).length ≤ k
  | 0 => Nat.le_refl _
  | k + 1 => by
    have := selL_len f c k
    by_cases h : f k = c
    · rw [selL_yes h]; simp; omega
    · rw [selL_no h]; omega

theorem ofClub_yes (v : Value) (n : Nat) (g : Nat → TeamD) (c : Int) (w : World) (h : TeamRow w v n g) (hg : ∀ i, (g i).nm.size ≤ maxLen) (hp : fieldP n g) :
    Calls Try.prog 34 #[v, .int .i64 c] w (NumsMade w (selL (fun i => (g i).club) c n)) := by
  obtain ⟨i0, hi, hz0, hz1, hz2⟩ := info_parts Try.infoI
  have hn8 := hp.1
  have HF := Lib.hid (fun w1 h1 => fieldOk_yes v n g w1 h1 hg hp)
  have HW := Lib.hid h
  obtain ⟨a, cap, rfl, hn, hv⟩ := h.form
  have HV := Lib.hid hv
  clear hv h hg hp
  go_enter Try.func34, Try.ntmps34
  go_wp2_with (go_at_call 25; refine (HF.out _ HW.out).mono ?_; rintro e w1 ⟨rfl, b1⟩)
  have hsz1 := b1.size
  go_loopw [5, 14] (fun out i wr => ∃ (k : Nat) (P : List Int), k ≤ n ∧ i = .int .i64 k ∧ P.length ≤ k ∧ Hid (selL (fun i => (g i).club) c k = P) ∧
      wr.ownsRow w.heap.size 3 1 out P.length (P.map (Value.int .i64)) ∧ Below w.heap.size w wr) (fun _ i _ => n - (intOf i).toNat)
  case atStart => exact ⟨0, [], Nat.zero_le _, rfl, Nat.le_refl _, rfl, World.ownsRow_lit w1 #[] 0 hsz1 (by decide) rfl, b1.alloc hsz1 _⟩
  case round =>
    obtain ⟨k, P, hk, rfl, hP, hsel, hown, hb⟩ := hrel
    clear b1 hsz1
    have hsz := hb.size
    by_cases hlt : k < n
    · obtain ⟨b, off, rfl, hc⟩ := HV.out (by omega)
      obtain ⟨c0, c1, c2⟩ := cells_below hb (hc k hlt)
      by_cases hx : (g k).club = c
      · have HS := Lib.hid (selL_yes (f := fun i => (g i).club) hx)
        clear hc HV HF HW
        generalize g k = x at c0 c1 c2 hx
        have g1 : (x.club == c) = true := by simpa using hx
        have hown2 := hown.alloc (.cells #[.string x.nm, .int .i64 x.club, .int .i64 x.seed] 31)
        have hb2 := hb.alloc hsz (.cells #[.string x.nm, .int .i64 x.club, .int .i64 x.seed] 31)
        have hsz2 := hb2.size
        clear hown hb hx
        go_wp2_with (at_builtin; refine wpList_push rfl (.tmp 23) (.tmp 25) 25 rfl w.heap.size 3 Try.underlying25 hi hz0 hz1 hz2 rfl (by decide) [.int .i64 k] rfl (by intro u hu; simp at hu; subst hu; rfl) rfl (by show Value.slice (some ⟨wr.heap.size + 1, 0, none⟩) 1 1 = _; simp) hown2 (by unfold maxLen; omega) (by omega) hsz2 ?_; intro v' w1 hown1 hg1)
        go_roundw
        case rel => exact ⟨k + 1, P ++ [(k : Int)], by omega, by go_num, by simp; omega, by show _ = _; rw [HS.out, hsel.out], by simpa using hown1,
            hb2.grown hg1 hsz2 fun q hq => (hown2.lt q hq).1⟩
        case measure => simp [intOf]; omega
      · have HS := Lib.hid (selL_no (f := fun i => (g i).club) hx)
        have g1 : ((g k).club == c) = false := by simpa using hx
        clear hc HV HF HW hx
        generalize hgk : (g k) = x at c0 c1 c2 g1
        clear hgk
        go_wp2
        go_roundw
        case rel => exact ⟨k + 1, P, by omega, by go_num, by omega, by show _ = _; rw [HS.out, hsel.out], hown.alloc _, hb.alloc hsz _⟩
        case measure => simp [intOf]; omega
    · obtain rfl : k = n := by omega
      go_wp2
      go_ret
      exact ⟨_, rfl, by rw [hsel.out]; exact hown, hb⟩
theorem ofClub_no (v : Value) (n : Nat) (g : Nat → TeamD) (c : Int) (w : World) (h : TeamRow w v n g) (hg : ∀ i, (g i).nm.size ≤ maxLen) (hp : ¬ fieldP n g) :
    Calls Try.prog 34 #[v, .int .i64 c] w (NumsMade w []) := by
  have HF := Lib.hid (fun w1 h1 => fieldOk_no v n g w1 h1 hg hp)
  have HW := Lib.hid h
  clear h hg hp
  go_enter Try.func34, Try.ntmps34
  go_wp2_with (go_at_call 25; refine (HF.out _ HW.out).mono ?_; rintro e w1 ⟨rfl, b1⟩)
  go_ret
  exact ⟨_, rfl, World.ownsRow_nil _ _ _ _, b1⟩

/-- the indices in the order of their numbers f, from 1 to s -/
def seedsL (f : Nat → Int) (n : Nat) : Nat → List Int
  | 0 => []
  | s + 1 => seedsL f n s ++ selL f ((s : Int) + 1) n
theorem seedOrder_yes (v : Value) (n : Nat) (g : Nat → TeamD) (w : World) (h : TeamRow w v n g) (hg : ∀ i, (g i).nm.size ≤ maxLen) (hp : fieldP n g) :
    Calls Try.prog 29 #[v] w (NumsMade w (seedsL (fun i => (g i).seed) n 8)) := by
  obtain ⟨i0, hi, hz0, hz1, hz2⟩ := info_parts Try.infoI
  have hn8 := hp.1
  have HF := Lib.hid (fun w1 h1 => fieldOk_yes v n g w1 h1 hg hp)
  have HW := Lib.hid h
  obtain ⟨a, cap, rfl, hn, hv⟩ := h.form
  have HV := Lib.hid hv
  clear hv h hg hp
  go_enter Try.func29, Try.ntmps29
  go_wp2_with (go_at_call 25; refine (HF.out _ HW.out).mono ?_; rintro e w1 ⟨rfl, b1⟩)
  have hsz1 := b1.size
  go_loopw [3, 4] (fun out i wr => ∃ (s : Nat) (P : List Int), s ≤ 8 ∧ i = .int .i64 ((s : Int) + 1) ∧ P.length ≤ 8 * s ∧ Hid (seedsL (fun i => (g i).seed) n s = P) ∧
      wr.ownsRow w.heap.size 3 1 out P.length (P.map (Value.int .i64)) ∧ Below w.heap.size w wr) (fun _ i _ => 9 - (intOf i).toNat)
  case atStart => exact ⟨0, [], Nat.zero_le _, rfl, Nat.le_refl _, rfl, World.ownsRow_lit w1 #[] 0 hsz1 (by decide) rfl, b1.alloc hsz1 _⟩
  case round =>
    obtain ⟨s, P0, hs, rfl, hP0, hsel0, hown0, hb0⟩ := hrel
    clear b1 hsz1
    by_cases hlt8 : s < 8
    · have g8 : decide ((s : Int) + 1 ≤ 8) = true := decide_eq_true (by omega)
      go_wp2
      clear g8
      go_loopw [3, 17] (fun out i wi => ∃ (k : Nat) (P : List Int), k ≤ n ∧ i = .int .i64 k ∧ P.length ≤ 8 * s + k ∧ Hid (P0 ++ selL (fun i => (g i).seed) ((s : Int) + 1) k = P) ∧
        wi.ownsRow w.heap.size 3 1 out P.length (P.map (Value.int .i64)) ∧ Below w.heap.size w wi) (fun _ i _ => n - (intOf i).toNat)
      case atStart => exact ⟨0, P0, Nat.zero_le _, rfl, by omega, List.append_nil P0, hown0, hb0⟩
      case round =>
        obtain ⟨k, P, hk, rfl, hP, hsel, hown, hb⟩ := hrel
        clear hown0 hb0
        have hsz := hb.size
        by_cases hlt : k < n
        · obtain ⟨b, off, rfl, hc⟩ := HV.out (by omega)
          obtain ⟨c0, c1, c2⟩ := cells_below hb (hc k hlt)
          by_cases hx : (g k).seed = (s : Int) + 1
          · have HS := Lib.hid (selL_yes (f := fun i => (g i).seed) hx)
            clear hc HV HF HW
            generalize g k = x at c0 c1 c2 hx
            have g1 : (x.seed == (s : Int) + 1) = true := by simpa using hx
            have hown2 := hown.alloc (.cells #[.string x.nm, .int .i64 x.club, .int .i64 x.seed] 31)
            have hb2 := hb.alloc hsz (.cells #[.string x.nm, .int .i64 x.club, .int .i64 x.seed] 31)
            have hsz2 := hb2.size
            clear hown hb hx
            go_wp2_with (at_builtin; refine wpList_push rfl (.tmp 26) (.tmp 28) 25 rfl w.heap.size 3 Try.underlying25 hi hz0 hz1 hz2 rfl (by decide) [.int .i64 k] rfl (by intro u hu; simp at hu; subst hu; rfl) rfl (by show Value.slice (some ⟨wr.heap.size + 1, 0, none⟩) 1 1 = _; simp) hown2 (by unfold maxLen; omega) (by omega) hsz2 ?_; intro v' w1 hown1 hg1)
            go_roundw
            case rel => exact ⟨k + 1, P ++ [(k : Int)], by omega, by go_num, by simp; omega, by show _ = _; rw [HS.out, ← hsel.out, List.append_assoc], by simpa using hown1,
                hb2.grown hg1 hsz2 fun q hq => (hown2.lt q hq).1⟩
            case measure => simp [intOf]; omega
          · have HS := Lib.hid (selL_no (f := fun i => (g i).seed) hx)
            have g1 : ((g k).seed == (s : Int) + 1) = false := by simpa using hx
            clear hc HV HF HW hx
            generalize hgk : (g k) = x at c0 c1 c2 g1
            clear hgk
            go_wp2
            go_roundw
            case rel => exact ⟨k + 1, P, by omega, by go_num, by omega, by show _ = _; rw [HS.out, hsel.out], hown.alloc _, hb.alloc hsz _⟩
            case measure => simp [intOf]; omega
        · obtain rfl : k = n := by omega
          have HN : Hid (seedsL (fun i => (g i).seed) k (s + 1) = P) := by
            show _ = _
            rw [← hsel.out, ← hsel0.out]; rfl
          clear hsel hsel0
          go_wp2
          go_roundw
          case rel => exact ⟨s + 1, P, by omega, by go_num, by omega, HN.out, hown, hb⟩
          case measure => simp [intOf]; omega
    · obtain rfl : s = 8 := by omega
      go_wp2
      go_ret
      exact ⟨_, rfl, by rw [hsel0.out]; exact hown0, hb0⟩
theorem seedOrder_no (v : Value) (n : Nat) (g : Nat → TeamD) (w : World) (h : TeamRow w v n g) (hg : ∀ i, (g i).nm.size ≤ maxLen) (hp : ¬ fieldP n g) :
    Calls Try.prog 29 #[v] w (NumsMade w []) := by
  have HF := Lib.hid (fun w1 h1 => fieldOk_no v n g w1 h1 hg hp)
  have HW := Lib.hid h
  clear h hg hp
  go_enter Try.func29, Try.ntmps29
  go_wp2_with (go_at_call 25; refine (HF.out _ HW.out).mono ?_; rintro e w1 ⟨rfl, b1⟩)
  go_ret
  exact ⟨_, rfl, World.ownsRow_nil _ _ _ _, b1⟩

/-- how many of the clubs below c have a team -/
def clubsN (g : Nat → TeamD) (n : Nat) : Nat → Nat
  | 0 => 0
  | c + 1 => clubsN g n c + if 0 < (selL (fun i => (g i).club) (c : Int) n).length then 1 else 0
theorem clubsN_le (g : Nat → TeamD) (n : Nat) : ∀ c, clubsN g n c ≤ c
  | 0 => Nat.le_refl _
  | c + 1 => by
    have := clubsN_le g n c
    unfold clubsN
    split <;> omega
theorem TeamRow.below {w w' : World} {B : Nat} {v : Value} {n : Nat} {g : Nat → TeamD} (h : TeamRow w v n g) (hb : Below B w w') (hB : w.heap.size ≤ B) : TeamRow w' v n g := by
  rcases h with h | ⟨b, off, cap, h1, h0, h2, h3, h4⟩
  · exact .inl h
  · refine .inr ⟨b, off, cap, h1, h0, h2, fun i hi => ?_, h4⟩
    obtain ⟨k0, k1, k2⟩ := h3 i hi
    have hlt := Nat.lt_of_lt_of_le (World.block_lt_of_cell? w _ k0) hB
    exact ⟨(hb.cell (p := ⟨b, off + i * 3, none⟩) hlt).trans k0, (hb.cell (p := ⟨b, off + i * 3 + 1, none⟩) hlt).trans k1, (hb.cell (p := ⟨b, off + i * 3 + 2, none⟩) hlt).trans k2⟩
theorem TeamRow.drewN {w : World} {v : Value} {n q : Nat} {g : Nat → TeamD} (h : TeamRow w v n g) : TeamRow (w.drewN q) v n g := by
  rcases h with h | ⟨b, off, cap, h1, h0, h2, h3, h4⟩
  · exact .inl h
  · exact .inr ⟨b, off, cap, h1, h0, h2, fun i hi => by simp only [World.cell?_drewN]; exact h3 i hi, h4⟩
theorem NumsMade.form {w w' : World} {L : List Int} {e : Ending} (h : NumsMade w L e w') :
    ∃ a cap, e = .returned (.slice a L.length cap) ∧ w'.ownsRow w.heap.size 3 1 (.slice a L.length cap) L.length (L.map (Value.int .i64)) ∧ Below w.heap.size w w' := by
  obtain ⟨v, rfl, hown, hb⟩ := h
  rcases hown.2 with ⟨rfl, h0⟩ | ⟨g, cap, cur, rfl, _⟩
  · cases L with
    | nil => exact ⟨_, _, rfl, hown, hb⟩
    | cons => simp at h0
  · exact ⟨_, _, rfl, hown, hb⟩
theorem clubsOf_yes (v : Value) (n : Nat) (g : Nat → TeamD) (w : World) (h : TeamRow w v n g) (hg : ∀ i, (g i).nm.size ≤ maxLen) (hp : fieldP n g) :
    Calls Try.prog 35 #[v] w fun e w' => e = .returned (.int .i64 (clubsN g n 6 : Nat)) ∧ Below w.heap.size w w' := by
  have HF := Lib.hid (fun w1 h1 => fieldOk_yes v n g w1 h1 hg hp)
  have HO := Lib.hid (fun c w1 h1 => ofClub_yes v n g c w1 h1 hg hp)
  have HW := Lib.hid h
  clear h hg hp
  go_enter Try.func35, Try.ntmps35
  go_wp2_with (go_at_call 25; refine (HF.out _ HW.out).mono ?_; rintro e w1 ⟨rfl, b1⟩)
  go_loopw [3, 4] (fun nv i wr => ∃ (c m : Nat), c ≤ 6 ∧ m ≤ c ∧ i = .int .i64 c ∧ nv = .int .i64 m ∧ Hid (clubsN g n c = m) ∧ Below w.heap.size w wr) (fun _ i _ => 6 - (intOf i).toNat)
  case atStart => exact ⟨0, 0, Nat.zero_le _, Nat.le_refl _, rfl, rfl, rfl, b1⟩
  case round =>
    obtain ⟨c, m, hc, hm, rfl, rfl, hN, hb⟩ := hrel
    clear b1
    have hsz := hb.size
    by_cases hlt : c < 6
    · have HT := Lib.hid (HW.out.below hb (Nat.le_refl _))
      have HS : Hid (clubsN g n (c + 1) = m + if 0 < (selL (fun i => (g i).club) (c : Int) n).length then 1 else 0) := by
        show _ = _
        rw [← hN.out]; rfl
      clear hN HF HW
      generalize hL : selL (fun i => (g i).club) (c : Int) n = L at HS
      have HL := Lib.hid hL
      clear hL
      by_cases h0 : 0 < L.length
      · rw [if_pos h0] at HS
        have g1 : decide ((0 : Int) < L.length) = true := decide_eq_true (by omega)
        go_wp2_with (go_at_call 34; refine (HO.out _ _ HT.out).mono ?_; intro e w2 hm2; rw [HL.out] at hm2; obtain ⟨a2, cap2, rfl, hown2, b2⟩ := hm2.form; clear hm2)
        go_roundw
        case rel => exact ⟨c + 1, m + 1, by omega, by omega, by go_num, by go_num, HS, hb.trans (b2.mono hsz)⟩
        case measure => simp [intOf]; omega
      · rw [if_neg h0] at HS
        have g1 : decide ((0 : Int) < L.length) = false := decide_eq_false (by omega)
        go_wp2_with (go_at_call 34; refine (HO.out _ _ HT.out).mono ?_; intro e w2 hm2; rw [HL.out] at hm2; obtain ⟨a2, cap2, rfl, hown2, b2⟩ := hm2.form; clear hm2)
        go_roundw
        case rel => exact ⟨c + 1, m, by omega, by omega, by go_num, by go_num, HS, hb.trans (b2.mono hsz)⟩
        case measure => simp [intOf]; omega
    · obtain rfl : c = 6 := by omega
      go_wp2
      go_ret
      exact ⟨by rw [hN.out]; rfl, hb⟩
theorem clubsOf_no (v : Value) (n : Nat) (g : Nat → TeamD) (w : World) (h : TeamRow w v n g) (hg : ∀ i, (g i).nm.size ≤ maxLen) (hp : ¬ fieldP n g) :
    Calls Try.prog 35 #[v] w fun e w' => e = .returned (.int .i64 0) ∧ Below w.heap.size w w' := by
  have HF := Lib.hid (fun w1 h1 => fieldOk_no v n g w1 h1 hg hp)
  have HW := Lib.hid h
  clear h hg hp
  go_enter Try.func35, Try.ntmps35
  go_wp2_with (go_at_call 25; refine (HF.out _ HW.out).mono ?_; rintro e w1 ⟨rfl, b1⟩)
  go_ret
  exact ⟨rfl, b1⟩
theorem seedsL_len (f : Nat → Int) (n : Nat) : ∀ s, (seedsL f n s).length ≤ s * n
  | 0 => by simp [seedsL]
  | s + 1 => by
    have h1 := seedsL_len f n s
    have h2 := selL_len f ((s : Int) + 1) n
    unfold seedsL
    rw [List.length_append, Nat.succ_mul]
    omega
end Go.Proofs.Ytmghnhjfkecaaaa
