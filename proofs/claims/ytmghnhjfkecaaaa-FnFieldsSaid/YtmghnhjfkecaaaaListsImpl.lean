/-
  Fields: the program's OfClub and ClubsOf.
-/
import Derived.Test.YtmghnhjfkecaaaaFieldMap
import Derived.Test.YtmghnhjfkecaaaaClubs
set_option linter.unusedVariables false
namespace Go.Proofs.Ytmghnhjfkecaaaa
open Go.RowKit Go.Maps

theorem fieldOkI_yes (v : Value) (n : Nat) (g : Nat → TeamD) (w : World) (h : TeamRow w v n g) (hg : ∀ i, (g i).nm.size ≤ maxLen) (hp : fieldP n g) :
    Calls Try.prog 14 #[v] w fun e w' => e = .returned (.bool true) ∧ Below w.heap.size w w' := fieldOk_impl v n g true w h hg ⟨fun _ => hp, fun _ => rfl⟩
theorem fieldOkI_no (v : Value) (n : Nat) (g : Nat → TeamD) (w : World) (h : TeamRow w v n g) (hg : ∀ i, (g i).nm.size ≤ maxLen) (hp : ¬ fieldP n g) :
    Calls Try.prog 14 #[v] w fun e w' => e = .returned (.bool false) ∧ Below w.heap.size w w' := fieldOk_impl v n g false w h hg ⟨fun h => absurd h (by simp), fun h => absurd h hp⟩
theorem ofClubI_yes (v : Value) (n : Nat) (g : Nat → TeamD) (c : Int) (w : World) (h : TeamRow w v n g) (hg : ∀ i, (g i).nm.size ≤ maxLen) (hp : fieldP n g) :
    Calls Try.prog 16 #[v, .int .i64 c] w (NumsMade w (selL (fun i => (g i).club) c n)) := by
  obtain ⟨i0, hi, hz0, hz1, hz2⟩ := info_parts Try.infoI
  have hn8 := hp.1
  have HF := Lib.hid (fun w1 h1 => fieldOkI_yes v n g w1 h1 hg hp)
  have HW := Lib.hid h
  obtain ⟨a, cap, rfl, hn, hv⟩ := h.form
  have HV := Lib.hid hv
  clear hv h hg hp
  go_enter Try.func16, Try.ntmps16
  go_wp2_with (go_at_call 14; refine (HF.out _ HW.out).mono ?_; rintro e w1 ⟨rfl, b1⟩)
  have hsz1 := b1.size
  go_loopw [5, 13] (fun out i wr => ∃ (k : Nat) (P : List Int), k ≤ n ∧ i = .int .i64 k ∧ P.length ≤ k ∧ Hid (selL (fun i => (g i).club) c k = P) ∧
      wr.ownsRow w.heap.size 3 1 out P.length (P.map (Value.int .i64)) ∧ Below w.heap.size w wr) (fun _ i _ => n - (intOf i).toNat)
  case atStart => exact ⟨0, [], Nat.zero_le _, rfl, Nat.le_refl _, rfl, World.ownsRow_nil _ _ _ _, b1⟩
  case round =>
    obtain ⟨k, P, hk, rfl, hP, hsel, hown, hb⟩ := hrel
    clear b1 hsz1
    have hsz := hb.size
    by_cases hlt : k < n
    · obtain ⟨b, off, rfl, hc⟩ := HV.out (by omega)
      obtain ⟨c0, c1, c2⟩ := cells_below hb (hc k hlt)
      by_cases hx : (g k).club = c
      · have HS := Lib.hid (selL_yes (f := fun i => (g i).club) hx)
        clear hc HV HF HW
        generalize g k = x at c0 c1 c2 hx
        have g1 : (x.club == c) = true := by simpa using hx
        have hown2 := hown.alloc (.cells #[.string x.nm, .int .i64 x.club, .int .i64 x.seed] 31)
        have hb2 := hb.alloc hsz (.cells #[.string x.nm, .int .i64 x.club, .int .i64 x.seed] 31)
        have hsz2 := hb2.size
        clear hown hb hx
        go_wp2_with (at_builtin; refine wpList_push rfl (.tmp 22) (.tmp 24) 25 rfl w.heap.size 3 Try.underlying25 hi hz0 hz1 hz2 rfl (by decide) [.int .i64 k] rfl (by intro u hu; simp at hu; subst hu; rfl) rfl (by show Value.slice (some ⟨wr.heap.size + 1, 0, none⟩) 1 1 = _; simp) hown2 (by unfold maxLen; omega) (by omega) hsz2 ?_; intro v' w1 hown1 hg1)
        go_roundw
        case rel => exact ⟨k + 1, P ++ [(k : Int)], by omega, by go_num, by simp; omega, by show _ = _; rw [HS.out, hsel.out], by simpa using hown1,
            hb2.grown hg1 hsz2 fun q hq => (hown2.lt q hq).1⟩
        case measure => simp [intOf]; omega
      · have HS := Lib.hid (selL_no (f := fun i => (g i).club) hx)
        have g1 : ((g k).club == c) = false := by simpa using hx
        clear hc HV HF HW hx
        generalize hgk : (g k) = x at c0 c1 c2 g1
        clear hgk
        go_wp2
        go_roundw
        case rel => exact ⟨k + 1, P, by omega, by go_num, by omega, by show _ = _; rw [HS.out, hsel.out], hown.alloc _, hb.alloc hsz _⟩
        case measure => simp [intOf]; omega
    · obtain rfl : k = n := by omega
      go_wp2
      go_ret
      exact ⟨_, rfl, by rw [hsel.out]; exact hown, hb⟩
theorem ofClubI_no (v : Value) (n : Nat) (g : Nat → TeamD) (c : Int) (w : World) (h : TeamRow w v n g) (hg : ∀ i, (g i).nm.size ≤ maxLen) (hp : ¬ fieldP n g) :
    Calls Try.prog 16 #[v, .int .i64 c] w (NumsMade w []) := by
  have HF := Lib.hid (fun w1 h1 => fieldOkI_no v n g w1 h1 hg hp)
  have HW := Lib.hid h
  clear h hg hp
  go_enter Try.func16, Try.ntmps16
  go_wp2_with (go_at_call 14; refine (HF.out _ HW.out).mono ?_; rintro e w1 ⟨rfl, b1⟩)
  go_ret
  exact ⟨_, rfl, World.ownsRow_nil _ _ _ _, b1⟩


def clubK (t : TeamD) : Lit := .int .i64 t.club
theorem keyLitI {x : Int} : WideAt.IsKeyLit (.int .i64 x) := trivial
theorem zBoolV (w : World) : (zeroValue 4).run Try.prog w = .ok (.bool false) w := by kernel_rfl
theorem leftN_put {D : DataW Unit} {x : Nat} {z : DataW Unit} (ht : Tidy D) : ∀ c, x < c → (has D (.int .i64 (x : Int)) = false) → leftN (has (D.put (.int .i64 (x : Int)) z)) c = leftN (has D) c + 1 := by
  intro c hc hno
  have h1 : has (D.put (.int .i64 (x : Int)) z) (.int .i64 (x : Int)) = true := has_put_same ht.isMap keyLitI z
  rw [← leftN_strike h1 c hc]
  congr 1
  refine leftN_congr c fun j hj => ?_
  simp only [same_int]
  by_cases hjx : (j : Int) = x
  · rw [hjx, hno]; simp
  · rw [decide_eq_false hjx]
    rw [has_put_other (by intro e; simp only [Lit.int.injEq, true_and] at e; exact hjx e)]; simp
theorem leftN_has {D : DataW Unit} {x : Nat} {z : DataW Unit} (ht : Tidy D) (c : Nat) (hyes : has D (.int .i64 (x : Int)) = true) : leftN (has (D.put (.int .i64 (x : Int)) z)) c = leftN (has D) c := by
  refine leftN_congr c fun j hj => ?_
  by_cases hjx : (j : Int) = x
  · rw [hjx, hyes, has_put_same ht.isMap keyLitI z]
  · rw [has_put_other (by intro e; simp only [Lit.int.injEq, true_and] at e; exact hjx e)]
/-- D holds the associations of the first k teams, and is as great as they are many -/
def clubSet (g : Nat → TeamD) (k : Nat) (D : DataW Unit) : Prop := (∀ kl, has D kl = true ↔ ∃ j, j < k ∧ kl = clubK (g j)) ∧ size D = leftN (has D) 6
theorem clubSet.next {g : Nat → TeamD} {k : Nat} {D : DataW Unit} {z : DataW Unit} (h : clubSet g k D) (ht : Tidy D) (hc : 0 ≤ (g k).club ∧ (g k).club < 6) : clubSet g (k + 1) (D.put (clubK (g k)) z) := by
  refine ⟨fun kl => ?_, ?_⟩
  · by_cases hk : kl = clubK (g k)
    · subst hk
      rw [show has (D.put (clubK (g k)) z) (clubK (g k)) = true from has_put_same ht.isMap (keyLitI (x := (g k).club)) z]
      exact ⟨fun _ => ⟨k, by omega, rfl⟩, fun _ => rfl⟩
    · rw [has_put_other hk, h.1 kl]
      constructor
      · rintro ⟨j, hj, e⟩; exact ⟨j, by omega, e⟩
      · rintro ⟨j, hj, e⟩
        by_cases hjk : j = k
        · subst hjk; exact absurd e hk
        · exact ⟨j, by omega, e⟩
  · obtain ⟨x, hx⟩ : ∃ x : Nat, (g k).club = x := ⟨(g k).club.toNat, by omega⟩
    have hkl : clubK (g k) = .int .i64 (x : Int) := by unfold clubK; rw [hx]
    rw [hkl, size_put ht]
    by_cases hh : has D (.int .i64 (x : Int)) = true
    · rw [if_pos hh, leftN_has ht 6 hh, h.2]
    · rw [if_neg hh, leftN_put ht 6 (by omega) (by simpa using hh), h.2]
theorem selL_pos {f : Nat → Int} {c : Int} : ∀ k, 0 < (selL f c k).length ↔ ∃ j, j < k ∧ f j = c
  | 0 => ⟨fun h => by simp [selL] at h, fun ⟨j, hj, _⟩ => absurd hj (by omega)⟩
  | k + 1 => by
    by_cases h : f k = c
    · rw [selL_yes h]
      exact ⟨fun _ => ⟨k, by omega, h⟩, fun _ => by simp⟩
    · rw [selL_no h, selL_pos k]
      constructor
      · rintro ⟨j, hj, e⟩; exact ⟨j, by omega, e⟩
      · rintro ⟨j, hj, e⟩
        by_cases hjk : j = k
        · subst hjk; exact absurd e h
        · exact ⟨j, by omega, e⟩
theorem clubSet.size {g : Nat → TeamD} {n : Nat} {D : DataW Unit} (h : clubSet g n D) : size D = clubsN g n 6 := by
  rw [h.2]
  have key : ∀ c, leftN (has D) c = clubsN g n c := by
    intro c
    induction c with
    | zero => rfl
    | succ c ih =>
      unfold leftN clubsN
      rw [ih]
      have hiff : has D (.int .i64 (c : Int)) = true ↔ 0 < (selL (fun i => (g i).club) (c : Int) n).length := by
        rw [h.1, selL_pos]
        constructor
        · rintro ⟨j, hj, e⟩
          unfold clubK at e
          simp only [Lit.int.injEq, true_and] at e
          exact ⟨j, hj, e.symm⟩
        · rintro ⟨j, hj, e⟩
          exact ⟨j, hj, by unfold clubK; rw [e]⟩
      by_cases hp : 0 < (selL (fun i => (g i).club) (c : Int) n).length
      · rw [if_pos (hiff.2 hp), if_pos hp]
      · rw [if_neg (fun e => hp (hiff.1 e)), if_neg hp]
  exact key 6
theorem clubsOfI_yes (v : Value) (n : Nat) (g : Nat → TeamD) (w : World) (h : TeamRow w v n g) (hg : ∀ i, (g i).nm.size ≤ maxLen) (hp : fieldP n g) :
    Calls Try.prog 19 #[v] w fun e w' => e = .returned (.int .i64 (clubsN g n 6 : Nat)) ∧ Below w.heap.size w w' := by
  have hn8 := hp.1
  generalize hN : clubsN g n 6 = N at *
  have HND := Lib.hid hN
  clear hN
  have HF := Lib.hid (fun w1 h1 => fieldOkI_yes v n g w1 h1 hg hp)
  have HW := Lib.hid h
  have HCl : Hid (∀ k, k < n → 0 ≤ (g k).club ∧ (g k).club < 6) := fun k hk => by have := (hp.2 k hk).1.2.1; omega
  obtain ⟨a, cap, rfl, hn, hv⟩ := h.form
  have HV := Lib.hid hv
  clear hv h hg hp
  have hmm := @run_makeMap Try.prog
  go_enter Try.func19, Try.ntmps19
  go_wp2_with (go_at_call 14; refine (HF.out _ HW.out).mono ?_; rintro e w1 ⟨rfl, b1⟩)
  have hsz1 := b1.size
  have m1 : (w1.alloc (.map #[] 0)).ownsMap Try.prog 3 (plainElem (H := Unit) Try.prog 4) w1.heap.size 0 (.map []) := World.ownsMap_made _ _ _ _
  generalize hB : w1.heap.size = B at *
  have HB := Lib.hid hB
  have b1' : Below w.heap.size w (w1.alloc (.map #[] 0)) := b1.alloc (by omega) _
  clear hB
  go_loopw [12] (fun i wr => ∃ (k : Nat) (D : DataW Unit), k ≤ n ∧ i = .int .i64 k ∧ wr.ownsMap Try.prog 3 (plainElem Try.prog 4) B k D ∧ Hid (clubSet g k D) ∧ Below w.heap.size w wr) (fun i _ => n - (intOf i).toNat)
  case atStart => exact ⟨0, _, Nat.zero_le _, rfl, m1, ⟨fun kl => ⟨fun h => by simp [Maps.has_eq] at h, fun ⟨j, hj, _⟩ => absurd hj (by omega)⟩, by
    rw [leftN_zero (fun kl => by simp [Maps.has_eq])]; rfl⟩, b1'⟩
  case round =>
    clear b1 b1' m1
    obtain ⟨k, D, hk, rfl, m1, hD, hb⟩ := hrel
    have hsz := hb.size
    by_cases hlt : k < n
    · obtain ⟨b, off, rfl, hc⟩ := HV.out (by omega)
      obtain ⟨c0, c1, c2⟩ := cells_below hb (hc k hlt)
      have hcl := HCl.out k hlt
      have HK : Hid (keyOf Try.prog 3 (.int .i64 (g k).club) = some (clubK (g k))) := keyOf_int_mk Try.underlying3 (WalkArith.wf_i64 (by omega))
      have HD : Hid (∀ z, clubSet g (k + 1) (D.put (clubK (g k)) z)) := fun z => hD.out.next (m1.tidy kInt) hcl
      clear hc HV HCl HF HW hD hcl
      generalize clubK (g k) = kl at *
      generalize g k = x at *
      have M := Lib.hid (m1.alloc (.cells #[.string x.nm, .int .i64 x.club, .int .i64 x.seed] 31))
      have hb2 := hb.alloc hsz (.cells #[.string x.nm, .int .i64 x.club, .int .i64 x.seed] 31)
      clear m1 hb
      go_wp2_with (at_mapUpdate; refine wpList_mapUpdate_own _ rfl (.tmp 16) (.tmp 18) (.const (.bool true)) 58 rfl 3 4 kInt Try.underlying58 _ B k D rfl M.out (by unfold maxLen; omega) _ _ kl rfl rfl HK.out (.lit (.bool true)) [] (plainElem_bool Try.underlying4 true) ?_; intro w3 m3 g3)
      go_roundw
      case rel => exact ⟨k + 1, _, by omega, by go_num, m3, HD.out _, hb2.grown g3 hb2.size (fun q hq => by cases hq; omega)⟩
      case measure => simp [intOf]; omega
    · obtain rfl : k = n := by omega
      have hs : size D = N := hD.out.size.trans HND.out
      subst hs
      clear HV HCl HF HW hD HND
      go_wp2_with (at_len; refine wpList_len_own _ rfl (.tmp 20) 58 rfl 3 4 Try.underlying58 _ B k D rfl m1 ?_)
      go_ret
      exact ⟨rfl, hb⟩
theorem clubsOfI_no (v : Value) (n : Nat) (g : Nat → TeamD) (w : World) (h : TeamRow w v n g) (hg : ∀ i, (g i).nm.size ≤ maxLen) (hp : ¬ fieldP n g) :
    Calls Try.prog 19 #[v] w fun e w' => e = .returned (.int .i64 0) ∧ Below w.heap.size w w' := by
  have HF := Lib.hid (fun w1 h1 => fieldOkI_no v n g w1 h1 hg hp)
  have HW := Lib.hid h
  clear h hg hp
  go_enter Try.func19, Try.ntmps19
  go_wp2_with (go_at_call 14; refine (HF.out _ HW.out).mono ?_; rintro e w1 ⟨rfl, b1⟩)
  go_ret
  exact ⟨rfl, b1⟩
end Go.Proofs.Ytmghnhjfkecaaaa
