/-
  Fields: the model's TeamOk, FieldOk, TeamNamed.
-/
import Derived.Test.YtmghnhjfkecaaaaTeams
import Derived.Test.YtmghnhjfkecaaaaTextA
set_option linter.unusedVariables false
namespace Go.Proofs.Ytmghnhjfkecaaaa
open Go.RowKit

theorem bytes_ne {x y : ByteArray} (h : x ≠ y) : (x.toList == y.toList) = false := by
  rw [beq_eq_false_iff_ne, ne_eq, ByteArray.toList_eq, ByteArray.toList_eq]
  exact fun e => h (ByteArray.ext (Array.toList_inj.mp e))
def teamP (t : TeamD) : Prop := nameB t.nm = true ∧ (0 ≤ t.club ∧ t.club ≤ 5) ∧ (1 ≤ t.seed ∧ t.seed ≤ 8)
theorem teamOk_yes (t : TeamD) (w : World) (hs : t.nm.size ≤ maxLen) (hp : teamP t) :
    Calls Try.prog 21 #[.agg #[.string t.nm, .int .i64 t.club, .int .i64 t.seed]] w fun e w' => e = .returned (.bool true) ∧ Below w.heap.size w w' := by
  obtain ⟨nm, club, seed⟩ := t
  obtain ⟨h1, h2, h3⟩ := hp
  simp only at h1 h2 h3 hs ⊢
  have H1 := Lib.hid h1
  clear h1
  go_enter Try.func21, Try.ntmps21
  go_wp2_with (first
    | (go_at_call 46; refine (isName_spec _ _ hs).mono ?_; rintro e w' ⟨rfl, rfl⟩; rw [H1.out])
    | (go_at_call 47; refine (l01In_yes _ _ _ _ (by omega)).mono ?_; rintro e w' ⟨rfl, rfl⟩))
  go_ret
  exact ⟨rfl, (Below.refl _ _).alloc (Nat.le_refl _) _⟩
theorem teamOk_no (t : TeamD) (w : World) (hs : t.nm.size ≤ maxLen) (hp : ¬ teamP t) :
    Calls Try.prog 21 #[.agg #[.string t.nm, .int .i64 t.club, .int .i64 t.seed]] w fun e w' => e = .returned (.bool false) ∧ Below w.heap.size w w' := by
  obtain ⟨nm, club, seed⟩ := t
  unfold teamP at hp
  simp only at hp hs ⊢
  by_cases h1 : nameB nm = true
  · have H1 := Lib.hid h1
    by_cases h2 : 0 ≤ club ∧ club ≤ 5
    · have h3 : ¬ (1 ≤ seed ∧ seed ≤ 8) := fun h3 => hp ⟨h1, h2, h3⟩
      clear h1 hp
      go_enter Try.func21, Try.ntmps21
      go_wp2_with (first
        | (go_at_call 46; refine (isName_spec _ _ hs).mono ?_; rintro e w' ⟨rfl, rfl⟩; rw [H1.out])
        | (go_at_call 47; refine (l01In_yes _ _ _ _ (by omega)).mono ?_; rintro e w' ⟨rfl, rfl⟩)
        | (go_at_call 47; refine (l01In_no _ _ _ _ (by omega)).mono ?_; rintro e w' ⟨rfl, rfl⟩))
      go_ret
      exact ⟨rfl, (Below.refl _ _).alloc (Nat.le_refl _) _⟩
    · clear h1 hp
      go_enter Try.func21, Try.ntmps21
      go_wp2_with (first
        | (go_at_call 46; refine (isName_spec _ _ hs).mono ?_; rintro e w' ⟨rfl, rfl⟩; rw [H1.out])
        | (go_at_call 47; refine (l01In_no _ _ _ _ (by omega)).mono ?_; rintro e w' ⟨rfl, rfl⟩))
      go_ret
      exact ⟨rfl, (Below.refl _ _).alloc (Nat.le_refl _) _⟩
  · have h1' : nameB nm = false := by simpa using h1
    have H1 := Lib.hid h1'
    clear h1 h1' hp
    go_enter Try.func21, Try.ntmps21
    go_wp2_with (go_at_call 46; refine (isName_spec _ _ hs).mono ?_; rintro e w' ⟨rfl, rfl⟩; rw [H1.out])
    go_ret
    exact ⟨rfl, (Below.refl _ _).alloc (Nat.le_refl _) _⟩

/-- the first team from k on, of r more, that has this name; else -1 -/
def namedI (g : Nat → TeamD) (x : ByteArray) : Nat → Nat → Int
  | 0, _ => -1
  | r + 1, k => if (g k).nm = x then (k : Int) else namedI g x r (k + 1)
theorem teamNamed_spec (v : Value) (n : Nat) (g : Nat → TeamD) (x : ByteArray) (w : World) (h : TeamRow w v n g) :
    Calls Try.prog 28 #[v, .string x] w fun e w' => e = .returned (.int .i64 (namedI g x n 0)) ∧ Below w.heap.size w w' := by
  obtain ⟨a, cap, rfl, hn, hv⟩ := h.form
  have HV := Lib.hid hv
  clear hv h
  generalize hr : namedI g x n 0 = R
  have HR := Lib.hid hr
  clear hr
  go_enter Try.func28, Try.ntmps28
  go_wp2
  go_loopw [9] (fun i wr => ∃ k : Nat, k ≤ n ∧ i = .int .i64 k ∧ Hid (namedI g x (n - k) k = R) ∧ Below w.heap.size w wr) (fun i _ => n - (intOf i).toNat)
  case atStart => exact ⟨0, Nat.zero_le _, rfl, HR.out, Below.refl _ _⟩
  case round =>
    obtain ⟨k, hk, rfl, hp, hb⟩ := hrel
    by_cases hlt : k < n
    · obtain ⟨b, off, rfl, hc⟩ := HV.out (by omega)
      obtain ⟨c0, c1, c2⟩ := cells_below hb (hc k hlt)
      have hstep : (if (g k).nm = x then (k : Int) else namedI g x (n - (k + 1)) (k + 1)) = R := by
        have := hp.out
        rw [show n - k = n - (k + 1) + 1 by omega] at this
        exact this
      clear hc HV hp
      by_cases hx : (g k).nm = x
      · rw [if_pos hx] at hstep
        subst hstep
        clear HR
        rw [hx] at c0
        clear hx
        generalize g k = t at c1 c2
        go_wp2
        go_ret
        exact ⟨rfl, hb.alloc hb.size _⟩
      · rw [if_neg hx] at hstep
        have HS := Lib.hid hstep
        have g1 : ((g k).nm.toList == x.toList) = false := bytes_ne hx
        clear hx hstep
        generalize g k = t at c0 c1 c2 g1
        go_wp2
        go_roundw
        case rel => exact ⟨k + 1, by omega, by go_num, HS.out, hb.alloc hb.size _⟩
        case measure => simp [intOf]; omega
    · obtain rfl : k = n := by omega
      have hR : R = -1 := by rw [← hp.out, Nat.sub_self]; rfl
      subst hR
      clear hp HR
      go_wp2
      go_ret
      exact ⟨rfl, hb⟩
/-- a new variable of three cells keeps them under what keeps all that was there -/
theorem var3 {w w2 : World} {t : TypeId} {a b c : Value} (h : Below (w.alloc (.cells #[a, b, c] t)).heap.size (w.alloc (.cells #[a, b, c] t)) w2) :
    w2.cell? ⟨w.heap.size, 0, none⟩ = some a ∧ w2.cell? ⟨w.heap.size, 1, none⟩ = some b ∧ w2.cell? ⟨w.heap.size, 2, none⟩ = some c := by
  have key : ∀ (j : Nat) (u : Value), #[a, b, c][j]? = some u → w2.cell? ⟨w.heap.size, j, none⟩ = some u := by
    intro j u hu
    have h0 : (w.alloc (.cells #[a, b, c] t)).cell? ⟨w.heap.size, j, none⟩ = some u := by
      rw [cell_of_row _ w.heap.size j #[a, b, c] t (0, 0) (heap_alloc_new w _)]
      exact hu
    exact (h.cell (p := ⟨w.heap.size, j, none⟩) (World.block_lt_of_cell? _ _ h0)).trans h0
  exact ⟨key 0 a rfl, key 1 b rfl, key 2 c rfl⟩
theorem var3_below {w w2 : World} {B : Nat} {a b c : Value} (k0 : w.cell? ⟨B, 0, none⟩ = some a) (k1 : w.cell? ⟨B, 1, none⟩ = some b) (k2 : w.cell? ⟨B, 2, none⟩ = some c) (h : Below w.heap.size w w2) :
    w2.cell? ⟨B, 0, none⟩ = some a ∧ w2.cell? ⟨B, 1, none⟩ = some b ∧ w2.cell? ⟨B, 2, none⟩ = some c := by
  have hlt : B < w.heap.size := World.block_lt_of_cell? w _ k0
  exact ⟨(h.cell (p := ⟨B, 0, none⟩) hlt).trans k0, (h.cell (p := ⟨B, 1, none⟩) hlt).trans k1, (h.cell (p := ⟨B, 2, none⟩) hlt).trans k2⟩
theorem TeamRow.take {w : World} {b off cap n : Nat} {g : Nat → TeamD} (k : Nat) (hk : k ≤ n) (hn : n ≤ 9223372036854775807) (hcap : n ≤ cap)
    (h : ∀ i, i < n → w.cell? ⟨b, off + i * 3, none⟩ = some (.string (g i).nm) ∧ w.cell? ⟨b, off + i * 3 + 1, none⟩ = some (.int .i64 (g i).club) ∧ w.cell? ⟨b, off + i * 3 + 2, none⟩ = some (.int .i64 (g i).seed)) :
    TeamRow w (.slice (some ⟨b, off, none⟩) k cap) k g := by
  by_cases h0 : k = 0
  · subst h0; exact .inl ⟨_, _, rfl, rfl⟩
  · exact .inr ⟨b, off, cap, rfl, by omega, by omega, fun i hi => h i (by omega), by omega⟩
theorem TeamRow.form' {w : World} {v : Value} {n : Nat} {g : Nat → TeamD} (h : TeamRow w v n g) :
    ∃ a cap, v = .slice a n cap ∧ n ≤ 9223372036854775807 ∧ (0 < n → ∃ b off, a = some ⟨b, off, none⟩ ∧ n ≤ cap ∧
      ∀ i, i < n → w.cell? ⟨b, off + i * 3, none⟩ = some (.string (g i).nm) ∧ w.cell? ⟨b, off + i * 3 + 1, none⟩ = some (.int .i64 (g i).club) ∧ w.cell? ⟨b, off + i * 3 + 2, none⟩ = some (.int .i64 (g i).seed)) := by
  rcases h with ⟨a, cap, rfl, rfl⟩ | ⟨b, off, cap, rfl, _, hn, hc, hcap⟩
  · exact ⟨_, _, rfl, by omega, fun h => absurd h (by omega)⟩
  · exact ⟨_, _, rfl, hn, fun _ => ⟨b, off, rfl, hcap, hc⟩⟩

/-- team number i is valid and like none before it -/
def freshP (g : Nat → TeamD) (i : Nat) : Prop := teamP (g i) ∧ ∀ j, j < i → (g j).nm ≠ (g i).nm ∧ (g j).seed ≠ (g i).seed
def fieldP (n : Nat) (g : Nat → TeamD) : Prop := (2 ≤ n ∧ n ≤ 8) ∧ ∀ i, i < n → freshP g i
theorem fieldOk_yes (v : Value) (n : Nat) (g : Nat → TeamD) (w : World) (h : TeamRow w v n g) (hg : ∀ i, (g i).nm.size ≤ maxLen) (hp : fieldP n g) :
    Calls Try.prog 25 #[v] w fun e w' => e = .returned (.bool true) ∧ Below w.heap.size w w' := by
  obtain ⟨hn8, hall⟩ := hp
  obtain ⟨a, cap, rfl, hn, hv⟩ := h.form'
  have HV := Lib.hid hv
  have HA := Lib.hid hall
  have HG := Lib.hid hg
  clear hv h hall hg
  go_enter Try.func25, Try.ntmps25
  go_wp2_with (go_at_call 47; refine (l01In_yes _ _ _ _ (by omega)).mono ?_; rintro e w' ⟨rfl, rfl⟩)
  go_loopw [13] (fun i wr => ∃ k : Nat, k ≤ n ∧ i = .int .i64 k ∧ Below w.heap.size w wr) (fun i _ => n - (intOf i).toNat)
  case atStart => exact ⟨0, Nat.zero_le _, rfl, Below.refl _ _⟩
  case round =>
    obtain ⟨k, hk, rfl, hb⟩ := hrel
    by_cases hlt : k < n
    · obtain ⟨b, off, rfl, hcap, hc⟩ := HV.out (by omega)
      obtain ⟨c0, c1, c2⟩ := cells_below hb (hc k hlt)
      obtain ⟨hx, hno⟩ := HA.out k hlt
      have HC : Hid (∀ i, i < k → (w.cell? ⟨b, off + i * 3, none⟩ = some (.string (g i).nm) ∧ w.cell? ⟨b, off + i * 3 + 1, none⟩ = some (.int .i64 (g i).club) ∧ w.cell? ⟨b, off + i * 3 + 2, none⟩ = some (.int .i64 (g i).seed))) := fun i hi => hc i (by omega)
      have HNO := Lib.hid hno
      have HX := Lib.hid hx
      have hgk := HG.out k
      have hk9 : (k : Int) ≤ cap := by omega
      clear hc HV HA hno hx HG
      generalize hy : g k = x at c0 c1 c2 HNO HX hgk
      clear hy
      go_wp2_with (go_at_call 21; refine (teamOk_yes x _ hgk HX.out).mono ?_; rintro e w2 ⟨rfl, b2⟩; have K := Lib.hid (var3 b2); have hb2 : Below w.heap.size w w2 := (hb.alloc hb.size _).trans (b2.mono (Nat.le_trans hb.size (by simp))))
      have HB2 := Lib.hid hb2
      clear b2 hb hb2 c0 c1 c2
      generalize wr.heap.size = B at *
      go_loopw [25] (fun i wi => ∃ j : Nat, j ≤ k ∧ i = .int .i64 j ∧ Below w2.heap.size w2 wi) (fun i _ => k - (intOf i).toNat)
      case atStart => exact ⟨0, Nat.zero_le _, rfl, Below.refl _ _⟩
      case round =>
        obtain ⟨j, hj, rfl, hbi⟩ := hrel
        obtain ⟨v0, v1, v2⟩ := K.out
        have hvb := World.block_lt_of_cell? w2 _ v0
        have v0 := (hbi.cell (p := ⟨B, 0, none⟩) hvb).trans v0
        have v2 := (hbi.cell (p := ⟨B, 2, none⟩) hvb).trans v2
        clear K v1
        by_cases hj' : j < k
        · have hbo : Below w.heap.size w wr := HB2.out.trans (hbi.mono HB2.out.size)
          obtain ⟨c0, c1, c2⟩ := cells_below hbo (HC.out j hj')
          obtain ⟨hn1, hn2⟩ := HNO.out j hj'
          have g1 : ((g j).nm.toList == x.nm.toList) = false := bytes_ne hn1
          have g2 : ((g j).seed == x.seed) = false := by simpa using hn2
          clear hn1 hn2 HC HNO hbo
          generalize g j = y at c0 c1 c2 g1 g2
          have hwb := World.block_lt_of_cell? wr _ v0
          have V0 : (wr.alloc (.cells #[.string y.nm, .int .i64 y.club, .int .i64 y.seed] 31)).cell? ⟨B, 0, none⟩ = some (.string x.nm) :=
            (((Below.refl wr.heap.size wr).alloc (Nat.le_refl _) _).cell (p := ⟨B, 0, none⟩) hwb).trans v0
          have V2 : (wr.alloc (.cells #[.string y.nm, .int .i64 y.club, .int .i64 y.seed] 31)).cell? ⟨B, 2, none⟩ = some (.int .i64 x.seed) :=
            (((Below.refl wr.heap.size wr).alloc (Nat.le_refl _) _).cell (p := ⟨B, 2, none⟩) hwb).trans v2
          clear v0 v2
          go_wp2
          go_roundw
          case rel => exact ⟨j + 1, by omega, by go_num, hbi.alloc hbi.size _⟩
          case measure => simp [intOf]; omega
        · go_wp2
          go_roundw
          case rel => exact ⟨k + 1, by omega, by go_num, HB2.out.trans (hbi.mono HB2.out.size)⟩
          case measure => simp [intOf]; omega
    · go_wp2
      go_ret
      exact ⟨rfl, hb⟩
theorem fieldOk_no (v : Value) (n : Nat) (g : Nat → TeamD) (w : World) (h : TeamRow w v n g) (hg : ∀ i, (g i).nm.size ≤ maxLen) (hp : ¬ fieldP n g) :
    Calls Try.prog 25 #[v] w fun e w' => e = .returned (.bool false) ∧ Below w.heap.size w w' := by
  obtain ⟨a, cap, rfl, hn, hv⟩ := h.form'
  have HV := Lib.hid hv
  have HG := Lib.hid hg
  clear hv h hg
  by_cases hn8 : ¬ ((2 : Int) ≤ n ∧ (n : Int) ≤ 8)
  · clear hp HV HG
    go_enter Try.func25, Try.ntmps25
    go_wp2_with (go_at_call 47; refine (l01In_no _ _ _ _ (by omega)).mono ?_; rintro e w' ⟨rfl, rfl⟩)
    go_ret
    exact ⟨rfl, Below.refl _ _⟩
  replace hn8 := Decidable.not_not.1 hn8
  have HA : Hid (¬ ∀ i, i < n → freshP g i) := fun h => hp ⟨by omega, h⟩
  clear hp
  go_enter Try.func25, Try.ntmps25
  go_wp2_with (go_at_call 47; refine (l01In_yes _ _ _ _ (by omega)).mono ?_; rintro e w' ⟨rfl, rfl⟩)
  go_loopw [13] (fun i wr => ∃ k : Nat, k ≤ n ∧ i = .int .i64 k ∧ Hid (∀ i, i < k → freshP g i) ∧ Below w.heap.size w wr) (fun i _ => n - (intOf i).toNat)
  case atStart => exact ⟨0, Nat.zero_le _, rfl, fun i hi => absurd hi (by omega), Below.refl _ _⟩
  case round =>
    obtain ⟨k, hk, rfl, hf, hb⟩ := hrel
    by_cases hlt : k < n
    · obtain ⟨b, off, rfl, hcap, hc⟩ := HV.out (by omega)
      obtain ⟨c0, c1, c2⟩ := cells_below hb (hc k hlt)
      have HC : Hid (∀ i, i < k → (w.cell? ⟨b, off + i * 3, none⟩ = some (.string (g i).nm) ∧ w.cell? ⟨b, off + i * 3 + 1, none⟩ = some (.int .i64 (g i).club) ∧ w.cell? ⟨b, off + i * 3 + 2, none⟩ = some (.int .i64 (g i).seed))) := fun i hi => hc i (by omega)
      have HS : Hid (freshP g k → ∀ i, i < k + 1 → freshP g i) := fun h i hi => by
        by_cases hik : i = k
        · subst hik; exact h
        · exact hf.out i (by omega)
      have hgk := HG.out k
      have hk9 : (k : Int) ≤ cap := by omega
      clear hc HV HA HG hf
      by_cases hx : ¬ teamP (g k)
      · have HX := Lib.hid hx
        clear hx HC HS
        generalize g k = x at *
        go_wp2_with (go_at_call 21; refine (teamOk_no x _ hgk HX.out).mono ?_; rintro e w2 ⟨rfl, b2⟩; have hb2 : Below w.heap.size w w2 := (hb.alloc hb.size _).trans (b2.mono (Nat.le_trans hb.size (by simp))))
        go_ret
        exact ⟨rfl, hb2⟩
      replace hx := Classical.not_not.1 hx
      have HX := Lib.hid hx
      have HF : Hid ((∀ j, j < k → (g j).nm ≠ (g k).nm ∧ (g j).seed ≠ (g k).seed) → ∀ i, i < k + 1 → freshP g i) := fun h => HS.out ⟨HX.out, h⟩
      clear hx HS
      have HY : Hid (g k = g k) := rfl
      generalize hy : g k = x at c0 c1 c2 HX hgk
      have HE := Lib.hid hy
      clear hy HY
      go_wp2_with (go_at_call 21; refine (teamOk_yes x _ hgk HX.out).mono ?_; rintro e w2 ⟨rfl, b2⟩; have K := Lib.hid (var3 b2); have hb2 : Below w.heap.size w w2 := (hb.alloc hb.size _).trans (b2.mono (Nat.le_trans hb.size (by simp))))
      have HB2 := Lib.hid hb2
      clear b2 hb hb2 c0 c1 c2
      generalize wr.heap.size = B at *
      go_loopw [25] (fun i wi => ∃ j : Nat, j ≤ k ∧ i = .int .i64 j ∧ Hid (∀ t, t < j → (g t).nm ≠ x.nm ∧ (g t).seed ≠ x.seed) ∧ Below w2.heap.size w2 wi) (fun i _ => k - (intOf i).toNat)
      case atStart => exact ⟨0, Nat.zero_le _, rfl, fun i hi => absurd hi (by omega), Below.refl _ _⟩
      case round =>
        obtain ⟨j, hj, rfl, hfi, hbi⟩ := hrel
        obtain ⟨v0, v1, v2⟩ := K.out
        have hvb := World.block_lt_of_cell? w2 _ v0
        have v0 := (hbi.cell (p := ⟨B, 0, none⟩) hvb).trans v0
        have v2 := (hbi.cell (p := ⟨B, 2, none⟩) hvb).trans v2
        clear K v1
        have HBO := Lib.hid (HB2.out.trans (hbi.mono HB2.out.size))
        by_cases hj' : j < k
        · obtain ⟨c0, c1, c2⟩ := cells_below HBO.out (HC.out j hj')
          have HN : Hid ((g j).nm ≠ x.nm → (g j).seed ≠ x.seed → ∀ t, t < j + 1 → (g t).nm ≠ x.nm ∧ (g t).seed ≠ x.seed) := fun h1 h2 t ht => by
            by_cases htj : t = j
            · subst htj; exact ⟨h1, h2⟩
            · exact hfi.out t (by omega)
          have hwb := World.block_lt_of_cell? wr _ v0
          have V0 : ∀ y : TeamD, Hid ((wr.alloc (.cells #[.string y.nm, .int .i64 y.club, .int .i64 y.seed] 31)).cell? ⟨B, 0, none⟩ = some (.string x.nm)) := fun y =>
            (((Below.refl wr.heap.size wr).alloc (Nat.le_refl _) _).cell (p := ⟨B, 0, none⟩) hwb).trans v0
          have V2 : ∀ y : TeamD, Hid ((wr.alloc (.cells #[.string y.nm, .int .i64 y.club, .int .i64 y.seed] 31)).cell? ⟨B, 2, none⟩ = some (.int .i64 x.seed)) := fun y =>
            (((Below.refl wr.heap.size wr).alloc (Nat.le_refl _) _).cell (p := ⟨B, 2, none⟩) hwb).trans v2
          have V0 := (V0 (g j)).out
          have V2 := (V2 (g j)).out
          clear v0 v2 HC HF HE hfi
          by_cases h1 : (g j).nm = x.nm
          · rw [h1] at c0
            clear HN
            generalize g j = y at *
            rw [h1] at V0 V2
            clear h1
            go_wp2
            go_ret
            exact ⟨rfl, HBO.out.alloc HBO.out.size _⟩
          · have g1 : ((g j).nm.toList == x.nm.toList) = false := bytes_ne h1
            by_cases h2 : (g j).seed = x.seed
            · clear HN h1
              generalize g j = y at *
              have g2 : (y.seed == x.seed) = true := by simpa using h2
              clear h2
              go_wp2
              go_ret
              exact ⟨rfl, HBO.out.alloc HBO.out.size _⟩
            · have g2 : ((g j).seed == x.seed) = false := by simpa using h2
              have HN2 := Lib.hid (HN.out h1 h2)
              clear h1 h2 HN
              generalize g j = y at c0 c1 c2 g1 g2 V0 V2
              go_wp2
              go_roundw
              case rel => exact ⟨j + 1, by omega, by go_num, HN2.out, hbi.alloc hbi.size _⟩
              case measure => simp [intOf]; omega
        · obtain rfl : j = k := by omega
          have HF2 : Hid (∀ i, i < j + 1 → freshP g i) := HF.out (by rw [HE.out]; exact hfi.out)
          clear HF hfi HE v0 v2
          go_wp2
          go_roundw
          case rel => exact ⟨j + 1, by omega, by go_num, HF2.out, HBO.out⟩
          case measure => simp [intOf]; omega
    · obtain rfl : k = n := by omega
      exact absurd hf.out HA.out
end Go.Proofs.Ytmghnhjfkecaaaa
