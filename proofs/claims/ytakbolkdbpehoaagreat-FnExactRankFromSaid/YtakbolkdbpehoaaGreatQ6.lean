/-
  Packed: Field, Clubs, BookOk, HasMem, BookVals, KeyValue, TeamsAll.
-/
import Derived.Test.YtakbolkdbpehoaaGreatQ1
import Derived.Test.YtakbolkdbpehoaaGreatQ2
import Derived.Test.YtakbolkdbpehoaaGreatQ5
set_option linter.unusedVariables false
namespace Go.Proofs.YtakbolkdbpehoaaGreat
open Go.RowKit

theorem bytes_ne {x y : ByteArray} (h : x ≠ y) : (x.toList == y.toList) = false := by
  rw [beq_eq_false_iff_ne, ne_eq, ByteArray.toList_eq, ByteArray.toList_eq]
  exact fun e => h (ByteArray.ext (Array.toList_inj.mp e))
def teamP (t : TeamD) : Prop := nameB t.nm = true ∧ (0 ≤ t.club ∧ t.club ≤ 5) ∧ (1 ≤ t.seed ∧ t.seed ≤ 8)
theorem teamOk_yes (t : TeamD) (w : World) (hs : t.nm.size ≤ maxLen) (hp : teamP t) :
    Calls Tryz.prog 122 #[.agg #[.string t.nm, .int .i64 t.club, .int .i64 t.seed]] w fun e w' => e = .returned (.bool true) ∧ Below w.heap.size w w' := by
  obtain ⟨nm, club, seed⟩ := t
  obtain ⟨h1, h2, h3⟩ := hp
  simp only at h1 h2 h3 hs ⊢
  have H1 := Lib.hid h1
  clear h1
  go_enter Tryz.func122, Tryz.ntmps122
  go_wp2_with (first
    | (go_at_call 137; refine (isName_spec _ _ hs).mono ?_; rintro e w' ⟨rfl, rfl⟩; rw [H1.out])
    | (go_at_call 97; refine (l01In_yes _ _ _ _ (by omega)).mono ?_; rintro e w' ⟨rfl, rfl⟩))
  go_ret
  exact ⟨rfl, (Below.refl _ _).alloc (Nat.le_refl _) _⟩
theorem teamOk_no (t : TeamD) (w : World) (hs : t.nm.size ≤ maxLen) (hp : ¬ teamP t) :
    Calls Tryz.prog 122 #[.agg #[.string t.nm, .int .i64 t.club, .int .i64 t.seed]] w fun e w' => e = .returned (.bool false) ∧ Below w.heap.size w w' := by
  obtain ⟨nm, club, seed⟩ := t
  unfold teamP at hp
  simp only at hp hs ⊢
  by_cases h1 : nameB nm = true
  · have H1 := Lib.hid h1
    by_cases h2 : 0 ≤ club ∧ club ≤ 5
    · have h3 : ¬ (1 ≤ seed ∧ seed ≤ 8) := fun h3 => hp ⟨h1, h2, h3⟩
      clear h1 hp
      go_enter Tryz.func122, Tryz.ntmps122
      go_wp2_with (first
        | (go_at_call 137; refine (isName_spec _ _ hs).mono ?_; rintro e w' ⟨rfl, rfl⟩; rw [H1.out])
        | (go_at_call 97; refine (l01In_yes _ _ _ _ (by omega)).mono ?_; rintro e w' ⟨rfl, rfl⟩)
        | (go_at_call 97; refine (l01In_no _ _ _ _ (by omega)).mono ?_; rintro e w' ⟨rfl, rfl⟩))
      go_ret
      exact ⟨rfl, (Below.refl _ _).alloc (Nat.le_refl _) _⟩
    · clear h1 hp
      go_enter Tryz.func122, Tryz.ntmps122
      go_wp2_with (first
        | (go_at_call 137; refine (isName_spec _ _ hs).mono ?_; rintro e w' ⟨rfl, rfl⟩; rw [H1.out])
        | (go_at_call 97; refine (l01In_no _ _ _ _ (by omega)).mono ?_; rintro e w' ⟨rfl, rfl⟩))
      go_ret
      exact ⟨rfl, (Below.refl _ _).alloc (Nat.le_refl _) _⟩
  · have h1' : nameB nm = false := by simpa using h1
    have H1 := Lib.hid h1'
    clear h1 h1' hp
    go_enter Tryz.func122, Tryz.ntmps122
    go_wp2_with (go_at_call 137; refine (isName_spec _ _ hs).mono ?_; rintro e w' ⟨rfl, rfl⟩; rw [H1.out])
    go_ret
    exact ⟨rfl, (Below.refl _ _).alloc (Nat.le_refl _) _⟩

/-- the first team from k on, of r more, that has this name; else -1 -/
def namedI (g : Nat → TeamD) (x : ByteArray) : Nat → Nat → Int
  | 0, _ => -1
  | r + 1, k => if (g k).nm = x then (k : Int) else namedI g x r (k + 1)
/-- a new variable of three cells keeps them under what keeps all that was there -/
theorem var3 {w w2 : World} {t : TypeId} {a b c : Value} (h : Below (w.alloc (.cells #[a, b, c] t)).heap.size (w.alloc (.cells #[a, b, c] t)) w2) :
    w2.cell? ⟨w.heap.size, 0, none⟩ = some a ∧ w2.cell? ⟨w.heap.size, 1, none⟩ = some b ∧ w2.cell? ⟨w.heap.size, 2, none⟩ = some c := by
  have key : ∀ (j : Nat) (u : Value), #[a, b, c][j]? = some u → w2.cell? ⟨w.heap.size, j, none⟩ = some u := by
    intro j u hu
    have h0 : (w.alloc (.cells #[a, b, c] t)).cell? ⟨w.heap.size, j, none⟩ = some u := by
      rw [cell_of_row _ w.heap.size j #[a, b, c] t (0, 0) (heap_alloc_new w _)]
      exact hu
    exact (h.cell (p := ⟨w.heap.size, j, none⟩) (World.block_lt_of_cell? _ _ h0)).trans h0
  exact ⟨key 0 a rfl, key 1 b rfl, key 2 c rfl⟩
theorem var3_below {w w2 : World} {B : Nat} {a b c : Value} (k0 : w.cell? ⟨B, 0, none⟩ = some a) (k1 : w.cell? ⟨B, 1, none⟩ = some b) (k2 : w.cell? ⟨B, 2, none⟩ = some c) (h : Below w.heap.size w w2) :
    w2.cell? ⟨B, 0, none⟩ = some a ∧ w2.cell? ⟨B, 1, none⟩ = some b ∧ w2.cell? ⟨B, 2, none⟩ = some c := by
  have hlt : B < w.heap.size := World.block_lt_of_cell? w _ k0
  exact ⟨(h.cell (p := ⟨B, 0, none⟩) hlt).trans k0, (h.cell (p := ⟨B, 1, none⟩) hlt).trans k1, (h.cell (p := ⟨B, 2, none⟩) hlt).trans k2⟩
theorem TeamRow.take {w : World} {b off cap n : Nat} {g : Nat → TeamD} (k : Nat) (hk : k ≤ n) (hn : n ≤ 9223372036854775807) (hcap : n ≤ cap)
    (h : ∀ i, i < n → w.cell? ⟨b, off + i * 3, none⟩ = some (.string (g i).nm) ∧ w.cell? ⟨b, off + i * 3 + 1, none⟩ = some (.int .i64 (g i).club) ∧ w.cell? ⟨b, off + i * 3 + 2, none⟩ = some (.int .i64 (g i).seed)) :
    TeamRow w (.slice (some ⟨b, off, none⟩) k cap) k g := by
  by_cases h0 : k = 0
  · subst h0; exact .inl ⟨_, _, rfl, rfl⟩
  · exact .inr ⟨b, off, cap, rfl, by omega, by omega, fun i hi => h i (by omega), by omega⟩
theorem TeamRow.form' {w : World} {v : Value} {n : Nat} {g : Nat → TeamD} (h : TeamRow w v n g) :
    ∃ a cap, v = .slice a n cap ∧ n ≤ 9223372036854775807 ∧ (0 < n → ∃ b off, a = some ⟨b, off, none⟩ ∧ n ≤ cap ∧
      ∀ i, i < n → w.cell? ⟨b, off + i * 3, none⟩ = some (.string (g i).nm) ∧ w.cell? ⟨b, off + i * 3 + 1, none⟩ = some (.int .i64 (g i).club) ∧ w.cell? ⟨b, off + i * 3 + 2, none⟩ = some (.int .i64 (g i).seed)) := by
  rcases h with ⟨a, cap, rfl, rfl⟩ | ⟨b, off, cap, rfl, _, hn, hc, hcap⟩
  · exact ⟨_, _, rfl, by omega, fun h => absurd h (by omega)⟩
  · exact ⟨_, _, rfl, hn, fun _ => ⟨b, off, rfl, hcap, hc⟩⟩

/-- team number i is valid and like none before it -/
def freshP (g : Nat → TeamD) (i : Nat) : Prop := teamP (g i) ∧ ∀ j, j < i → (g j).nm ≠ (g i).nm ∧ (g j).seed ≠ (g i).seed
def fieldP (n : Nat) (g : Nat → TeamD) : Prop := (2 ≤ n ∧ n ≤ 8) ∧ ∀ i, i < n → freshP g i
theorem fieldOk_yes (v : Value) (n : Nat) (g : Nat → TeamD) (w : World) (h : TeamRow w v n g) (hg : ∀ i, (g i).nm.size ≤ maxLen) (hp : fieldP n g) :
    Calls Tryz.prog 94 #[v] w fun e w' => e = .returned (.bool true) ∧ Below w.heap.size w w' := by
  obtain ⟨hn8, hall⟩ := hp
  obtain ⟨a, cap, rfl, hn, hv⟩ := h.form'
  have HV := Lib.hid hv
  have HA := Lib.hid hall
  have HG := Lib.hid hg
  clear hv h hall hg
  go_enter Tryz.func94, Tryz.ntmps94
  go_wp2_with (go_at_call 97; refine (l01In_yes _ _ _ _ (by omega)).mono ?_; rintro e w' ⟨rfl, rfl⟩)
  go_loopw [13] (fun i wr => ∃ k : Nat, k ≤ n ∧ i = .int .i64 k ∧ Below w.heap.size w wr) (fun i _ => n - (intOf i).toNat)
  case atStart => exact ⟨0, Nat.zero_le _, rfl, Below.refl _ _⟩
  case round =>
    obtain ⟨k, hk, rfl, hb⟩ := hrel
    by_cases hlt : k < n
    · obtain ⟨b, off, rfl, hcap, hc⟩ := HV.out (by omega)
      obtain ⟨c0, c1, c2⟩ := cells_below hb (hc k hlt)
      obtain ⟨hx, hno⟩ := HA.out k hlt
      have HC : Hid (∀ i, i < k → (w.cell? ⟨b, off + i * 3, none⟩ = some (.string (g i).nm) ∧ w.cell? ⟨b, off + i * 3 + 1, none⟩ = some (.int .i64 (g i).club) ∧ w.cell? ⟨b, off + i * 3 + 2, none⟩ = some (.int .i64 (g i).seed))) := fun i hi => hc i (by omega)
      have HNO := Lib.hid hno
      have HX := Lib.hid hx
      have hgk := HG.out k
      have hk9 : (k : Int) ≤ cap := by omega
      clear hc HV HA hno hx HG
      generalize hy : g k = x at c0 c1 c2 HNO HX hgk
      clear hy
      go_wp2_with (go_at_call 122; refine (teamOk_yes x _ hgk HX.out).mono ?_; rintro e w2 ⟨rfl, b2⟩; have K := Lib.hid (var3 b2); have hb2 : Below w.heap.size w w2 := (hb.alloc hb.size _).trans (b2.mono (Nat.le_trans hb.size (by simp))))
      have HB2 := Lib.hid hb2
      clear b2 hb hb2 c0 c1 c2
      generalize wr.heap.size = B at *
      go_loopw [25] (fun i wi => ∃ j : Nat, j ≤ k ∧ i = .int .i64 j ∧ Below w2.heap.size w2 wi) (fun i _ => k - (intOf i).toNat)
      case atStart => exact ⟨0, Nat.zero_le _, rfl, Below.refl _ _⟩
      case round =>
        obtain ⟨j, hj, rfl, hbi⟩ := hrel
        obtain ⟨v0, v1, v2⟩ := K.out
        have hvb := World.block_lt_of_cell? w2 _ v0
        have v0 := (hbi.cell (p := ⟨B, 0, none⟩) hvb).trans v0
        have v2 := (hbi.cell (p := ⟨B, 2, none⟩) hvb).trans v2
        clear K v1
        by_cases hj' : j < k
        · have hbo : Below w.heap.size w wr := HB2.out.trans (hbi.mono HB2.out.size)
          obtain ⟨c0, c1, c2⟩ := cells_below hbo (HC.out j hj')
          obtain ⟨hn1, hn2⟩ := HNO.out j hj'
          have g1 : ((g j).nm.toList == x.nm.toList) = false := bytes_ne hn1
          have g2 : ((g j).seed == x.seed) = false := by simpa using hn2
          clear hn1 hn2 HC HNO hbo
          generalize g j = y at c0 c1 c2 g1 g2
          have hwb := World.block_lt_of_cell? wr _ v0
          have V0 : (wr.alloc (.cells #[.string y.nm, .int .i64 y.club, .int .i64 y.seed] 104)).cell? ⟨B, 0, none⟩ = some (.string x.nm) :=
            (((Below.refl wr.heap.size wr).alloc (Nat.le_refl _) _).cell (p := ⟨B, 0, none⟩) hwb).trans v0
          have V2 : (wr.alloc (.cells #[.string y.nm, .int .i64 y.club, .int .i64 y.seed] 104)).cell? ⟨B, 2, none⟩ = some (.int .i64 x.seed) :=
            (((Below.refl wr.heap.size wr).alloc (Nat.le_refl _) _).cell (p := ⟨B, 2, none⟩) hwb).trans v2
          clear v0 v2
          go_wp2
          go_roundw
          case rel => exact ⟨j + 1, by omega, by go_num, hbi.alloc hbi.size _⟩
          case measure => simp [intOf]; omega
        · go_wp2
          go_roundw
          case rel => exact ⟨k + 1, by omega, by go_num, HB2.out.trans (hbi.mono HB2.out.size)⟩
          case measure => simp [intOf]; omega
    · go_wp2
      go_ret
      exact ⟨rfl, hb⟩
theorem fieldOk_no (v : Value) (n : Nat) (g : Nat → TeamD) (w : World) (h : TeamRow w v n g) (hg : ∀ i, (g i).nm.size ≤ maxLen) (hp : ¬ fieldP n g) :
    Calls Tryz.prog 94 #[v] w fun e w' => e = .returned (.bool false) ∧ Below w.heap.size w w' := by
  obtain ⟨a, cap, rfl, hn, hv⟩ := h.form'
  have HV := Lib.hid hv
  have HG := Lib.hid hg
  clear hv h hg
  by_cases hn8 : ¬ ((2 : Int) ≤ n ∧ (n : Int) ≤ 8)
  · clear hp HV HG
    go_enter Tryz.func94, Tryz.ntmps94
    go_wp2_with (go_at_call 97; refine (l01In_no _ _ _ _ (by omega)).mono ?_; rintro e w' ⟨rfl, rfl⟩)
    go_ret
    exact ⟨rfl, Below.refl _ _⟩
  replace hn8 := Decidable.not_not.1 hn8
  have HA : Hid (¬ ∀ i, i < n → freshP g i) := fun h => hp ⟨by omega, h⟩
  clear hp
  go_enter Tryz.func94, Tryz.ntmps94
  go_wp2_with (go_at_call 97; refine (l01In_yes _ _ _ _ (by omega)).mono ?_; rintro e w' ⟨rfl, rfl⟩)
  go_loopw [13] (fun i wr => ∃ k : Nat, k ≤ n ∧ i = .int .i64 k ∧ Hid (∀ i, i < k → freshP g i) ∧ Below w.heap.size w wr) (fun i _ => n - (intOf i).toNat)
  case atStart => exact ⟨0, Nat.zero_le _, rfl, fun i hi => absurd hi (by omega), Below.refl _ _⟩
  case round =>
    obtain ⟨k, hk, rfl, hf, hb⟩ := hrel
    by_cases hlt : k < n
    · obtain ⟨b, off, rfl, hcap, hc⟩ := HV.out (by omega)
      obtain ⟨c0, c1, c2⟩ := cells_below hb (hc k hlt)
      have HC : Hid (∀ i, i < k → (w.cell? ⟨b, off + i * 3, none⟩ = some (.string (g i).nm) ∧ w.cell? ⟨b, off + i * 3 + 1, none⟩ = some (.int .i64 (g i).club) ∧ w.cell? ⟨b, off + i * 3 + 2, none⟩ = some (.int .i64 (g i).seed))) := fun i hi => hc i (by omega)
      have HS : Hid (freshP g k → ∀ i, i < k + 1 → freshP g i) := fun h i hi => by
        by_cases hik : i = k
        · subst hik; exact h
        · exact hf.out i (by omega)
      have hgk := HG.out k
      have hk9 : (k : Int) ≤ cap := by omega
      clear hc HV HA HG hf
      by_cases hx : ¬ teamP (g k)
      · have HX := Lib.hid hx
        clear hx HC HS
        generalize g k = x at *
        go_wp2_with (go_at_call 122; refine (teamOk_no x _ hgk HX.out).mono ?_; rintro e w2 ⟨rfl, b2⟩; have hb2 : Below w.heap.size w w2 := (hb.alloc hb.size _).trans (b2.mono (Nat.le_trans hb.size (by simp))))
        go_ret
        exact ⟨rfl, hb2⟩
      replace hx := Classical.not_not.1 hx
      have HX := Lib.hid hx
      have HF : Hid ((∀ j, j < k → (g j).nm ≠ (g k).nm ∧ (g j).seed ≠ (g k).seed) → ∀ i, i < k + 1 → freshP g i) := fun h => HS.out ⟨HX.out, h⟩
      clear hx HS
      have HY : Hid (g k = g k) := rfl
      generalize hy : g k = x at c0 c1 c2 HX hgk
      have HE := Lib.hid hy
      clear hy HY
      go_wp2_with (go_at_call 122; refine (teamOk_yes x _ hgk HX.out).mono ?_; rintro e w2 ⟨rfl, b2⟩; have K := Lib.hid (var3 b2); have hb2 : Below w.heap.size w w2 := (hb.alloc hb.size _).trans (b2.mono (Nat.le_trans hb.size (by simp))))
      have HB2 := Lib.hid hb2
      clear b2 hb hb2 c0 c1 c2
      generalize wr.heap.size = B at *
      go_loopw [25] (fun i wi => ∃ j : Nat, j ≤ k ∧ i = .int .i64 j ∧ Hid (∀ t, t < j → (g t).nm ≠ x.nm ∧ (g t).seed ≠ x.seed) ∧ Below w2.heap.size w2 wi) (fun i _ => k - (intOf i).toNat)
      case atStart => exact ⟨0, Nat.zero_le _, rfl, fun i hi => absurd hi (by omega), Below.refl _ _⟩
      case round =>
        obtain ⟨j, hj, rfl, hfi, hbi⟩ := hrel
        obtain ⟨v0, v1, v2⟩ := K.out
        have hvb := World.block_lt_of_cell? w2 _ v0
        have v0 := (hbi.cell (p := ⟨B, 0, none⟩) hvb).trans v0
        have v2 := (hbi.cell (p := ⟨B, 2, none⟩) hvb).trans v2
        clear K v1
        have HBO := Lib.hid (HB2.out.trans (hbi.mono HB2.out.size))
        by_cases hj' : j < k
        · obtain ⟨c0, c1, c2⟩ := cells_below HBO.out (HC.out j hj')
          have HN : Hid ((g j).nm ≠ x.nm → (g j).seed ≠ x.seed → ∀ t, t < j + 1 → (g t).nm ≠ x.nm ∧ (g t).seed ≠ x.seed) := fun h1 h2 t ht => by
            by_cases htj : t = j
            · subst htj; exact ⟨h1, h2⟩
            · exact hfi.out t (by omega)
          have hwb := World.block_lt_of_cell? wr _ v0
          have V0 : ∀ y : TeamD, Hid ((wr.alloc (.cells #[.string y.nm, .int .i64 y.club, .int .i64 y.seed] 104)).cell? ⟨B, 0, none⟩ = some (.string x.nm)) := fun y =>
            (((Below.refl wr.heap.size wr).alloc (Nat.le_refl _) _).cell (p := ⟨B, 0, none⟩) hwb).trans v0
          have V2 : ∀ y : TeamD, Hid ((wr.alloc (.cells #[.string y.nm, .int .i64 y.club, .int .i64 y.seed] 104)).cell? ⟨B, 2, none⟩ = some (.int .i64 x.seed)) := fun y =>
            (((Below.refl wr.heap.size wr).alloc (Nat.le_refl _) _).cell (p := ⟨B, 2, none⟩) hwb).trans v2
          have V0 := (V0 (g j)).out
          have V2 := (V2 (g j)).out
          clear v0 v2 HC HF HE hfi
          by_cases h1 : (g j).nm = x.nm
          · rw [h1] at c0
            clear HN
            generalize g j = y at *
            rw [h1] at V0 V2
            clear h1
            go_wp2
            go_ret
            exact ⟨rfl, HBO.out.alloc HBO.out.size _⟩
          · have g1 : ((g j).nm.toList == x.nm.toList) = false := bytes_ne h1
            by_cases h2 : (g j).seed = x.seed
            · clear HN h1
              generalize g j = y at *
              have g2 : (y.seed == x.seed) = true := by simpa using h2
              clear h2
              go_wp2
              go_ret
              exact ⟨rfl, HBO.out.alloc HBO.out.size _⟩
            · have g2 : ((g j).seed == x.seed) = false := by simpa using h2
              have HN2 := Lib.hid (HN.out h1 h2)
              clear h1 h2 HN
              generalize g j = y at c0 c1 c2 g1 g2 V0 V2
              go_wp2
              go_roundw
              case rel => exact ⟨j + 1, by omega, by go_num, HN2.out, hbi.alloc hbi.size _⟩
              case measure => simp [intOf]; omega
        · obtain rfl : j = k := by omega
          have HF2 : Hid (∀ i, i < j + 1 → freshP g i) := HF.out (by rw [HE.out]; exact hfi.out)
          clear HF hfi HE v0 v2
          go_wp2
          go_roundw
          case rel => exact ⟨j + 1, by omega, by go_num, HF2.out, HBO.out⟩
          case measure => simp [intOf]; omega
    · obtain rfl : k = n := by omega
      exact absurd hf.out HA.out
end Go.Proofs.YtakbolkdbpehoaaGreat
set_option linter.unusedVariables false
namespace Go.Proofs.YtakbolkdbpehoaaGreat
open Go.RowKit

/-- the call makes a slice that holds L and owns its memory -/
def NumsMade (w : World) (L : List Int) (e : Ending) (w' : World) : Prop :=
  ∃ v, e = .returned v ∧ w'.ownsRow w.heap.size 3 1 v L.length (L.map (Value.int .i64)) ∧ Below w.heap.size w w'
/-- the indices below k whose number f is c -/
def selL (f : Nat → Int) (c : Int) : Nat → List Int
  | 0 => []
  | k + 1 => selL f c k ++ if f k = c then [(k : Int)] else []
theorem selL_yes {f : Nat → Int} {c : Int} {k : Nat} (h : f k = c) : selL f c (k + 1) = selL f c k ++ [(k : Int)] := by simp [selL, h]
theorem selL_no {f : Nat → Int} {c : Int} {k : Nat} (h : f k ≠ c) : selL f c (k + 1) = selL f c k := by simp [selL, h]
theorem selL_len (f : Nat → Int) (c : Int) : ∀ k, (selL f c k).length ≤ k
  | 0 => Nat.le_refl _
  | k + 1 => by
    have := selL_len f c k
    by_cases h : f k = c
    · rw [selL_yes h]; simp; omega
    · rw [selL_no h]; omega

/-- the indices in the order of their numbers f, from 1 to s -/
def seedsL (f : Nat → Int) (n : Nat) : Nat → List Int
  | 0 => []
  | s + 1 => seedsL f n s ++ selL f ((s : Int) + 1) n
/-- how many of the clubs below c have a team -/
def clubsN (g : Nat → TeamD) (n : Nat) : Nat → Nat
  | 0 => 0
  | c + 1 => clubsN g n c + if 0 < (selL (fun i => (g i).club) (c : Int) n).length then 1 else 0
theorem clubsN_le (g : Nat → TeamD) (n : Nat) : ∀ c, clubsN g n c ≤ c
  | 0 => Nat.le_refl _
  | c + 1 => by
    have := clubsN_le g n c
    unfold clubsN
    split <;> omega
theorem TeamRow.below {w w' : World} {B : Nat} {v : Value} {n : Nat} {g : Nat → TeamD} (h : TeamRow w v n g) (hb : Below B w w') (hB : w.heap.size ≤ B) : TeamRow w' v n g := by
  rcases h with h | ⟨b, off, cap, h1, h0, h2, h3, h4⟩
  · exact .inl h
  · refine .inr ⟨b, off, cap, h1, h0, h2, fun i hi => ?_, h4⟩
    obtain ⟨k0, k1, k2⟩ := h3 i hi
    have hlt := Nat.lt_of_lt_of_le (World.block_lt_of_cell? w _ k0) hB
    exact ⟨(hb.cell (p := ⟨b, off + i * 3, none⟩) hlt).trans k0, (hb.cell (p := ⟨b, off + i * 3 + 1, none⟩) hlt).trans k1, (hb.cell (p := ⟨b, off + i * 3 + 2, none⟩) hlt).trans k2⟩
theorem TeamRow.drewN {w : World} {v : Value} {n q : Nat} {g : Nat → TeamD} (h : TeamRow w v n g) : TeamRow (w.drewN q) v n g := by
  rcases h with h | ⟨b, off, cap, h1, h0, h2, h3, h4⟩
  · exact .inl h
  · exact .inr ⟨b, off, cap, h1, h0, h2, fun i hi => by simp only [World.cell?_drewN]; exact h3 i hi, h4⟩
theorem NumsMade.form {w w' : World} {L : List Int} {e : Ending} (h : NumsMade w L e w') :
    ∃ a cap, e = .returned (.slice a L.length cap) ∧ w'.ownsRow w.heap.size 3 1 (.slice a L.length cap) L.length (L.map (Value.int .i64)) ∧ Below w.heap.size w w' := by
  obtain ⟨v, rfl, hown, hb⟩ := h
  rcases hown.2 with ⟨rfl, h0⟩ | ⟨g, cap, cur, rfl, _⟩
  · cases L with
    | nil => exact ⟨_, _, rfl, hown, hb⟩
    | cons => simp at h0
  · exact ⟨_, _, rfl, hown, hb⟩
theorem seedsL_len (f : Nat → Int) (n : Nat) : ∀ s, (seedsL f n s).length ≤ s * n
  | 0 => by simp [seedsL]
  | s + 1 => by
    have h1 := seedsL_len f n s
    have h2 := selL_len f ((s : Int) + 1) n
    unfold seedsL
    rw [List.length_append, Nat.succ_mul]
    omega
end Go.Proofs.YtakbolkdbpehoaaGreat
set_option linter.unusedVariables false
namespace Go.Proofs.YtakbolkdbpehoaaGreat
open Go.RowKit

structure BookD where
  nf : Nat
  f : Nat → TeamD
  win : Int
  draw : Int
  loss : Int
  nl : Nat
  l : Nat → Int
  again : Bool
  m : Nat
  g : Nat → GameD
  nfa : Nat
  fa : Nat → Int
  nta : Nat
  ta : Nat → Int
/-- what the slices of a book hold -/
def BookRow (w : World) (vf vl vg vfa vta : Value) (b : BookD) : Prop :=
  TeamRow w vf b.nf b.f ∧ IntRow w vl b.nl b.l ∧ GameRow w vg b.m b.g ∧ IntRow w vfa b.nfa b.fa ∧ IntRow w vta b.nta b.ta
theorem BookRow.below {w w' : World} {B : Nat} {vf vl vg vfa vta : Value} {b : BookD} (h : BookRow w vf vl vg vfa vta b) (hb : Below B w w') (hB : w.heap.size ≤ B) : BookRow w' vf vl vg vfa vta b :=
  ⟨h.1.below hb hB, h.2.1.below hb hB, h.2.2.1.below hb hB, h.2.2.2.1.below hb hB, h.2.2.2.2.below hb hB⟩
theorem BookRow.form {w : World} {vf vl vg vfa vta : Value} {b : BookD} (h : BookRow w vf vl vg vfa vta b) :
    ∃ fa fc la lc ga gc qa qc ta tc, vf = .slice fa b.nf fc ∧ vl = .slice la b.nl lc ∧ vg = .slice ga b.m gc ∧ vfa = .slice qa b.nfa qc ∧ vta = .slice ta b.nta tc := by
  obtain ⟨fa, fc, h1, _⟩ := h.1.form
  obtain ⟨la, lc, h2, _⟩ := h.2.1.form
  obtain ⟨ga, gc, h3, _⟩ := h.2.2.1.form
  obtain ⟨qa, qc, h4, _⟩ := h.2.2.2.1.form
  obtain ⟨ta, tc, h5, _⟩ := h.2.2.2.2.form
  exact ⟨fa, fc, la, lc, ga, gc, qa, qc, ta, tc, h1, h2, h3, h4, h5⟩
def pensP (b : BookD) (i : Nat) : Prop := (0 ≤ b.fa i ∧ b.fa i ≤ 1000) ∧ (0 ≤ b.ta i ∧ b.ta i ≤ 1000)
/-- the book is valid -/
def bookP (b : BookD) : Prop := fieldP b.nf b.f ∧ rulesP b.win b.draw b.loss b.nl b.l ∧ seasonP b.nf b.m b.g ∧ b.nfa = b.nf ∧ b.nta = b.nf ∧ ∀ i, i < b.nf → pensP b i
theorem fieldOk_spec (v : Value) (n : Nat) (g : Nat → TeamD) (R : Bool) (w : World) (h : TeamRow w v n g) (hg : ∀ i, (g i).nm.size ≤ maxLen) (hR : R = true ↔ fieldP n g) :
    Calls Tryz.prog 94 #[v] w fun e w' => e = .returned (.bool R) ∧ Below w.heap.size w w' := by
  cases R with
  | true => exact (fieldOk_yes v n g w h hg (hR.1 rfl)).mono fun e w' h => ⟨h.1, by first | exact h.2 | (obtain ⟨q, rfl⟩ := h.2; exact below_drewN (Below.refl _ _) q) | (rw [← h.2]; exact Below.refl _ _)⟩
  | false => exact (fieldOk_no v n g w h hg fun hp => by have := hR.2 hp; cases this).mono fun e w' h => ⟨h.1, by first | exact h.2 | (obtain ⟨q, rfl⟩ := h.2; exact below_drewN (Below.refl _ _) q) | (rw [← h.2]; exact Below.refl _ _)⟩

theorem int_at {w : World} {a : Option Addr} {n c k : Nat} {g : Nat → Int} (h : IntRow w (.slice a n c) n g) (hk : k < n) : ∃ bo off, a = some ⟨bo, off, none⟩ ∧ n ≤ c ∧ w.cell? ⟨bo, off + k, none⟩ = some (.int .i64 (g k)) := by
  rcases h with ⟨_, _, _, h1⟩ | ⟨b', off, c', he, _, h3, hc, _⟩
  · omega
  · simp only [Value.slice.injEq, true_and] at he
    obtain ⟨rfl, rfl⟩ := he
    exact ⟨b', off, rfl, by omega, hc k hk⟩

set_option maxRecDepth 100000 in
set_option maxHeartbeats 2000000 in
theorem bookOk_spec (vf vl vg vfa vta : Value) (b : BookD) (R : Bool) (w : World) (hR : R = true ↔ bookP b) (h : BookRow w vf vl vg vfa vta b) (hs : ∀ i, (b.f i).nm.size ≤ maxLen) :
    Calls Tryz.prog 52 #[.agg #[vf, .int .i64 b.win, .int .i64 b.draw, .int .i64 b.loss, vl, .bool b.again, vg, vfa, vta]] w fun e w' => e = .returned (.bool R) ∧ Below w.heap.size w w' := by
  obtain ⟨fa, fc, la, lc, ga, gc, qa, qc, ta, tc, rfl, rfl, rfl, rfl, rfl⟩ := h.form
  obtain ⟨r1, hr1⟩ := boolEx (fieldP b.nf b.f)
  obtain ⟨r2, hr2⟩ := boolEx (rulesP b.win b.draw b.loss b.nl b.l)
  obtain ⟨r3, hr3⟩ := boolEx (seasonP b.nf b.m b.g)
  have C1 := Lib.hid (fun w1 h1 => fieldOk_spec (.slice fa b.nf fc) b.nf b.f r1 w1 h1 hs hr1)
  have C2 := Lib.hid (fun w1 h1 => rulesOk_spec b.win b.draw b.loss b.again r2 (.slice la b.nl lc) b.nl b.l w1 hr2 h1)
  have C3 := Lib.hid (fun w1 h1 => seasonOk_spec b.nf (.slice ga b.m gc) b.m b.g r3 w1 hr3 h1)
  have hall : R = true ↔ (r1 = true ∧ r2 = true ∧ r3 = true ∧ b.nfa = b.nf ∧ b.nta = b.nf ∧ ∀ i, i < b.nf → pensP b i) := by rw [hR, hr1, hr2, hr3]; exact Iff.rfl
  have HN := Lib.hid (boolF hall)
  have HY := Lib.hid (boolT hall)
  have b0 := (Below.refl w.heap.size w).alloc (Nat.le_refl _) (.cells #[.slice fa b.nf fc, .int .i64 b.win, .int .i64 b.draw, .int .i64 b.loss, .slice la b.nl lc, .bool b.again, .slice ga b.m gc, .slice qa b.nfa qc, .slice ta b.nta tc] 29)
  have BX0 := Lib.hid (BoxN.made (Below.refl (w.alloc (.cells #[.slice fa b.nf fc, .int .i64 b.win, .int .i64 b.draw, .int .i64 b.loss, .slice la b.nl lc, .bool b.again, .slice ga b.m gc, .slice qa b.nfa qc, .slice ta b.nta tc] 29)).heap.size (w.alloc (.cells #[.slice fa b.nf fc, .int .i64 b.win, .int .i64 b.draw, .int .i64 b.loss, .slice la b.nl lc, .bool b.again, .slice ga b.m gc, .slice qa b.nfa qc, .slice ta b.nta tc] 29))) (B := w.heap.size) rfl)
  have BR0 := Lib.hid (h.below b0 (Nat.le_refl _))
  have HB0 := Lib.hid b0
  have hn64 : (b.nf : Int) ≤ 9223372036854775807 := by obtain ⟨_, _, _, hq, _⟩ := h.1.form; omega
  clear hR hr1 hr2 hr3 hall h b0 hs
  have d0 := BX0.out.2 0 _ rfl
  have d1 := BX0.out.2 1 _ rfl
  have d2 := BX0.out.2 2 _ rfl
  have d3 := BX0.out.2 3 _ rfl
  have d4 := BX0.out.2 4 _ rfl
  have d5 := BX0.out.2 5 _ rfl
  have d6 := BX0.out.2 6 _ rfl
  have d7 := BX0.out.2 7 _ rfl
  have d8 := BX0.out.2 8 _ rfl
  go_enter Tryz.func52, Tryz.ntmps52
  cases r1 with
  | false =>
    obtain rfl := HN.out fun h => by have := h.1; cases this
    clear HN HY
    go_wp2_with fail
    refine (C1.out _ BR0.out.1).mono ?_
    rintro e w1 ⟨rfl, b1⟩
    have BX1 := Lib.hid (BoxN.below BX0.out b1)
    have BR1 := Lib.hid (BR0.out.below b1 (Nat.le_refl _))
    have HB1 := Lib.hid (HB0.out.trans (b1.mono HB0.out.size))
    clear d0 d1 d2 d3 d4 d5 d6 d7 d8 BX0 BR0 HB0 b1
    have d0 := BX1.out.2 0 _ rfl
    have d1 := BX1.out.2 1 _ rfl
    have d2 := BX1.out.2 2 _ rfl
    have d3 := BX1.out.2 3 _ rfl
    have d4 := BX1.out.2 4 _ rfl
    have d5 := BX1.out.2 5 _ rfl
    have d6 := BX1.out.2 6 _ rfl
    have d7 := BX1.out.2 7 _ rfl
    have d8 := BX1.out.2 8 _ rfl
    go_wp2
    go_ret
    exact ⟨rfl, HB1.out⟩
  | true =>
  go_wp2_with fail
  refine (C1.out _ BR0.out.1).mono ?_
  rintro e w1 ⟨rfl, b1⟩
  have BX1 := Lib.hid (BoxN.below BX0.out b1)
  have BR1 := Lib.hid (BR0.out.below b1 (Nat.le_refl _))
  have HB1 := Lib.hid (HB0.out.trans (b1.mono HB0.out.size))
  clear d0 d1 d2 d3 d4 d5 d6 d7 d8 BX0 BR0 HB0 b1
  have d0 := BX1.out.2 0 _ rfl
  have d1 := BX1.out.2 1 _ rfl
  have d2 := BX1.out.2 2 _ rfl
  have d3 := BX1.out.2 3 _ rfl
  have d4 := BX1.out.2 4 _ rfl
  have d5 := BX1.out.2 5 _ rfl
  have d6 := BX1.out.2 6 _ rfl
  have d7 := BX1.out.2 7 _ rfl
  have d8 := BX1.out.2 8 _ rfl
  cases r2 with
  | false =>
    obtain rfl := HN.out fun h => by have := h.2.1; cases this
    clear HN HY
    go_wp2_with fail
    refine (C2.out _ BR1.out.2.1).mono ?_
    rintro e w2 ⟨rfl, b2⟩
    have BX2 := Lib.hid (BoxN.below BX1.out b2)
    have BR2 := Lib.hid (BR1.out.below b2 (Nat.le_refl _))
    have HB2 := Lib.hid (HB1.out.trans (b2.mono HB1.out.size))
    clear d0 d1 d2 d3 d4 d5 d6 d7 d8 BX1 BR1 HB1 b2
    have d0 := BX2.out.2 0 _ rfl
    have d1 := BX2.out.2 1 _ rfl
    have d2 := BX2.out.2 2 _ rfl
    have d3 := BX2.out.2 3 _ rfl
    have d4 := BX2.out.2 4 _ rfl
    have d5 := BX2.out.2 5 _ rfl
    have d6 := BX2.out.2 6 _ rfl
    have d7 := BX2.out.2 7 _ rfl
    have d8 := BX2.out.2 8 _ rfl
    go_wp2
    go_ret
    exact ⟨rfl, HB2.out⟩
  | true =>
  go_wp2_with fail
  refine (C2.out _ BR1.out.2.1).mono ?_
  rintro e w2 ⟨rfl, b2⟩
  have BX2 := Lib.hid (BoxN.below BX1.out b2)
  have BR2 := Lib.hid (BR1.out.below b2 (Nat.le_refl _))
  have HB2 := Lib.hid (HB1.out.trans (b2.mono HB1.out.size))
  clear d0 d1 d2 d3 d4 d5 d6 d7 d8 BX1 BR1 HB1 b2
  have d0 := BX2.out.2 0 _ rfl
  have d1 := BX2.out.2 1 _ rfl
  have d2 := BX2.out.2 2 _ rfl
  have d3 := BX2.out.2 3 _ rfl
  have d4 := BX2.out.2 4 _ rfl
  have d5 := BX2.out.2 5 _ rfl
  have d6 := BX2.out.2 6 _ rfl
  have d7 := BX2.out.2 7 _ rfl
  have d8 := BX2.out.2 8 _ rfl
  cases r3 with
  | false =>
    obtain rfl := HN.out fun h => by have := h.2.2.1; cases this
    clear HN HY
    go_wp2_with fail
    refine (C3.out _ BR2.out.2.2.1).mono ?_
    rintro e w3 ⟨rfl, b3⟩
    have BX3 := Lib.hid (BoxN.below BX2.out b3)
    have BR3 := Lib.hid (BR2.out.below b3 (Nat.le_refl _))
    have HB3 := Lib.hid (HB2.out.trans (b3.mono HB2.out.size))
    clear d0 d1 d2 d3 d4 d5 d6 d7 d8 BX2 BR2 HB2 b3
    have d0 := BX3.out.2 0 _ rfl
    have d1 := BX3.out.2 1 _ rfl
    have d2 := BX3.out.2 2 _ rfl
    have d3 := BX3.out.2 3 _ rfl
    have d4 := BX3.out.2 4 _ rfl
    have d5 := BX3.out.2 5 _ rfl
    have d6 := BX3.out.2 6 _ rfl
    have d7 := BX3.out.2 7 _ rfl
    have d8 := BX3.out.2 8 _ rfl
    go_wp2
    go_ret
    exact ⟨rfl, HB3.out⟩
  | true =>
  go_wp2_with fail
  refine (C3.out _ BR2.out.2.2.1).mono ?_
  rintro e w3 ⟨rfl, b3⟩
  have BX3 := Lib.hid (BoxN.below BX2.out b3)
  have BR3 := Lib.hid (BR2.out.below b3 (Nat.le_refl _))
  have HB3 := Lib.hid (HB2.out.trans (b3.mono HB2.out.size))
  clear d0 d1 d2 d3 d4 d5 d6 d7 d8 BX2 BR2 HB2 b3
  have d0 := BX3.out.2 0 _ rfl
  have d1 := BX3.out.2 1 _ rfl
  have d2 := BX3.out.2 2 _ rfl
  have d3 := BX3.out.2 3 _ rfl
  have d4 := BX3.out.2 4 _ rfl
  have d5 := BX3.out.2 5 _ rfl
  have d6 := BX3.out.2 6 _ rfl
  have d7 := BX3.out.2 7 _ rfl
  have d8 := BX3.out.2 8 _ rfl
  by_cases h4 : b.nfa = b.nf
  case neg =>
    obtain rfl := HN.out fun h => h4 h.2.2.2.1
    have g1 : ((b.nfa : Int) == b.nf) = false := beq_eq_false_iff_ne.2 (by omega)
    have g2 : ((b.nfa : Int) != b.nf) = true := by unfold bne; rw [g1]; rfl
    clear HN HY h4
    go_wp2
    go_ret
    exact ⟨rfl, HB3.out⟩
  by_cases h5 : b.nta = b.nf
  case neg =>
    obtain rfl := HN.out fun h => h5 h.2.2.2.2.1
    have g1 : ((b.nfa : Int) == b.nf) = true := beq_iff_eq.2 (by omega)
    have g2 : ((b.nfa : Int) != b.nf) = false := by unfold bne; rw [g1]; rfl
    have g3 : ((b.nta : Int) == b.nf) = false := beq_eq_false_iff_ne.2 (by omega)
    have g4 : ((b.nta : Int) != b.nf) = true := by unfold bne; rw [g3]; rfl
    have H4 := Lib.hid h4
    clear HN HY h5 h4
    go_wp2
    go_ret
    exact ⟨rfl, HB3.out⟩
  have g1 : ((b.nfa : Int) == b.nf) = true := beq_iff_eq.2 (by omega)
  have g2 : ((b.nfa : Int) != b.nf) = false := by unfold bne; rw [g1]; rfl
  have g3 : ((b.nta : Int) == b.nf) = true := beq_iff_eq.2 (by omega)
  have g4 : ((b.nta : Int) != b.nf) = false := by unfold bne; rw [g3]; rfl
  have HN2 : Hid (∀ k, k < b.nf → ¬ pensP b k → R = false) := fun k hk h => HN.out fun hp => h (hp.2.2.2.2.2 k hk)
  have HY2 : Hid ((∀ i, i < b.nf → pensP b i) → R = true) := fun h => HY.out ⟨by first | rfl | trivial, by first | rfl | trivial, by first | rfl | trivial, h4, h5, h⟩
  have H4 := Lib.hid h4
  have H5 := Lib.hid h5
  clear HN HY h4 h5 C1 C2 C3
  go_wp2
  clear g1 g2 g3 g4 d0 d1 d2 d3 d4 d5 d6 d7 d8
  go_loopw [42] (fun i wr => ∃ k : Nat, k ≤ b.nf ∧ i = .int .i64 k ∧ Hid (∀ i, i < k → pensP b i) ∧ Hid (BoxN wr w.heap.size [.slice fa b.nf fc, .int .i64 b.win, .int .i64 b.draw, .int .i64 b.loss, .slice la b.nl lc, .bool b.again, .slice ga b.m gc, .slice qa b.nfa qc, .slice ta b.nta tc]) ∧ Hid (BookRow wr (.slice fa b.nf fc) (.slice la b.nl lc) (.slice ga b.m gc) (.slice qa b.nfa qc) (.slice ta b.nta tc) b) ∧ Hid (Below w.heap.size w wr)) (fun i _ => b.nf - (intOf i).toNat)
  case atStart => exact ⟨0, Nat.zero_le _, rfl, fun i hi => absurd hi (by omega), BX3, BR3, HB3⟩
  case round =>
    clear BX3 BR3 HB3
    obtain ⟨k, hk, rfl, hok, BX, BR, HB⟩ := hrel
    by_cases hlt : k < b.nf
    · have hc1 : wr.cell? ⟨w.heap.size, 7, none⟩ = some (.slice qa b.nfa qc) := BX.out.2 7 _ rfl
      have hc2 : wr.cell? ⟨w.heap.size, 8, none⟩ = some (.slice ta b.nta tc) := BX.out.2 8 _ rfl
      obtain ⟨q1, p1, rfl, hcq, u1⟩ : ∃ bo off, qa = some ⟨bo, off, none⟩ ∧ b.nfa ≤ qc ∧ wr.cell? ⟨bo, off + k, none⟩ = some (.int .i64 (b.fa k)) := int_at BR.out.2.2.2.1 (by have := H4.out; omega)
      obtain ⟨q2, p2, rfl, hct, u2⟩ : ∃ bo off, ta = some ⟨bo, off, none⟩ ∧ b.nta ≤ tc ∧ wr.cell? ⟨bo, off + k, none⟩ = some (.int .i64 (b.ta k)) := int_at BR.out.2.2.2.2 (by have := H5.out; omega)
      have e1 : (k : Int) < b.nfa := by have := H4.out; omega
      have e2 : (k : Int) < b.nta := by have := H5.out; omega
      have e3 : k < b.nfa := by omega
      have e4 : k < b.nta := by omega
      have hS : Hid (pensP b k → ∀ i, i < k + 1 → pensP b i) := fun h i hi => by
        by_cases hik : i = k
        · subst hik; exact h
        · exact hok.out i (by omega)
      have HNk := Lib.hid (HN2.out k hlt)
      clear HN2 HY2 hok
      by_cases hf : 0 ≤ b.fa k ∧ b.fa k ≤ 1000
      case neg =>
        obtain rfl := HNk.out fun h => hf h.1
        clear HNk hS
        go_wp2_with (go_at_call 97; refine (l01In_no _ _ _ _ hf).mono ?_; rintro e w2 ⟨rfl, rfl⟩)
        go_ret
        exact ⟨rfl, HB.out⟩
      by_cases ht : 0 ≤ b.ta k ∧ b.ta k ≤ 1000
      case neg =>
        obtain rfl := HNk.out fun h => ht h.2
        clear HNk hS
        go_wp2_with fail
        refine (l01In_yes _ _ _ _ hf).mono ?_
        rintro e w2 ⟨rfl, rfl⟩
        go_wp2_with fail
        refine (l01In_no _ _ _ _ ht).mono ?_
        rintro e w2 ⟨rfl, rfl⟩
        go_wp2
        go_ret
        exact ⟨rfl, HB.out⟩
      have HSk := Lib.hid (hS.out ⟨hf, ht⟩)
      clear HNk hS
      go_wp2_with fail
      refine (l01In_yes _ _ _ _ hf).mono ?_
      rintro e w2 ⟨rfl, rfl⟩
      go_wp2_with fail
      refine (l01In_yes _ _ _ _ ht).mono ?_
      rintro e w2 ⟨rfl, rfl⟩
      go_wp2
      go_roundw
      case rel => exact ⟨k + 1, by omega, by go_num, HSk.out, BX, BR, HB⟩
      case measure => simp [intOf]; omega
    · obtain rfl : b.nf = k := by omega
      obtain rfl := HY2.out hok.out
      clear HN2 HY2 hok
      go_wp2
      go_ret
      exact ⟨rfl, HB.out⟩
end Go.Proofs.YtakbolkdbpehoaaGreat
set_option linter.unusedVariables false
namespace Go.Proofs.YtakbolkdbpehoaaGreat
open Go.RowKit

theorem hasP_mem (L : List Int) (x : Int) : hasP (getI L) x L.length ↔ x ∈ L := by
  constructor
  · rintro ⟨j, hj, rfl⟩
    simp only [getI, List.getD_eq_getElem?_getD, List.getElem?_eq_getElem hj, Option.getD_some]
    exact List.getElem_mem hj
  · intro h
    obtain ⟨j, hj, he⟩ := List.getElem_of_mem h
    exact ⟨j, hj, by simp only [getI, List.getD_eq_getElem?_getD, List.getElem?_eq_getElem hj, Option.getD_some]; exact he⟩
theorem owns_form {w : World} {base : Nat} {e : TypeId} {size : Nat} {v : Value} {n : Nat} {xs : List Value} (h : w.ownsRow base e size v n xs) : ∃ a c, v = .slice a n c := by
  rcases h.2 with ⟨rfl, h0⟩ | ⟨b, cap, cur, rfl, _⟩
  · exact ⟨none, 0, by rw [h0]⟩
  · exact ⟨_, _, rfl⟩
end Go.Proofs.YtakbolkdbpehoaaGreat
set_option linter.unusedVariables false
namespace Go.Proofs.YtakbolkdbpehoaaGreat
open Go.RowKit

/-- a team's value for a key -/
def valD (key : Int) (r : RowD) (tk fr sd : Int) : Int :=
  if key = 1 then wrap64 (r.points - tk) else if key = 5 then r.points else if key = 2 ∨ key = 6 then wrap64 (r.scored - r.against) else if key = 3 then r.scored else if key = 4 then r.wins else if key = 7 then wrap64 (-fr) else if key = 8 then wrap64 (-sd) else 0
def bookT (b : BookD) (key : Int) (gg : Nat → Int) (ng : Nat) : Nat → RowD := tabR b.win b.draw b.loss (selG (!mutualB key) gg ng) b.g b.m
def bookV (b : BookD) (key : Int) (gg : Nat → Int) (ng : Nat) (i : Nat) : Int := valD key (bookT b key gg ng i) (b.ta i) (b.fa i) (b.f i).seed
theorem row_of {w : World} {a : Option Addr} {c n j : Nat} {T : Nat → RowD} (h : RowRow w (.slice a n c) n T) (hj : j < n) : ∃ bo off, a = some ⟨bo, off, none⟩ ∧ n ≤ c ∧ CellsAt w bo (off + j * 7) (T j).cells := by
  obtain ⟨aa, cap, he, _, hc⟩ := h.form
  simp only [Value.slice.injEq, true_and] at he
  obtain ⟨bo, off, h1, h2, h3⟩ := hc (by omega)
  obtain ⟨rfl, rfl⟩ := he
  exact ⟨bo, off, h1, h2, h3 j hj⟩
def valsL (V : Nat → Int) (k : Nat) : List Int := (List.range k).map V
theorem valsL_succ (V : Nat → Int) (k : Nat) : valsL V (k + 1) = valsL V k ++ [V k] := by unfold valsL; rw [List.range_succ, List.map_append]; rfl
set_option maxRecDepth 100000 in
set_option maxHeartbeats 4000000 in
theorem l07Values_spec (vf vl vg vfa vta : Value) (b : BookD) (key : Int) (gv : Value) (ng : Nat) (gg : Nat → Int) (w : World) (hp : bookP b) (h : BookRow w vf vl vg vfa vta b) (hgv : IntRow w gv ng gg) :
    Calls Tryz.prog 98 #[.agg #[vf, .int .i64 b.win, .int .i64 b.draw, .int .i64 b.loss, vl, .bool b.again, vg, vfa, vta], .int .i64 key, gv] w (IntsL w (valsL (bookV b key gg ng) b.nf)) := by
  obtain ⟨i0, hi, hz0, hz1, hz2⟩ := info_parts Tryz.infoI
  obtain ⟨fa, fc, la, lc, ga, gc, qa, qc, ta, tc, rfl, rfl, rfl, rfl, rfl⟩ := h.form
  have hn8 : b.nf ≤ 8 := by have := hp.1.1; omega
  have hfa : b.nfa = b.nf := hp.2.2.2.1
  have hta : b.nta = b.nf := hp.2.2.2.2.1
  have CAM := Lib.hid (fun wa h1 h2 => l06Among_spec b.win b.draw b.loss (.slice la b.nl lc) b.again b.nf b.m (.slice ga b.m gc) b.g gv ng gg (!mutualB key) wa ⟨_, _, _, rfl⟩ hn8 h1 h2 (fun i hi => (hp.2.2.1.2 i hi).1))
  obtain ⟨T, hT⟩ : ∃ T, tabR b.win b.draw b.loss (selG (!mutualB key) gg ng) b.g b.m = T := ⟨_, rfl⟩
  rw [hT] at CAM
  have HVd : Hid (∀ i, bookV b key gg ng i = valD key (T i) (b.ta i) (b.fa i) (b.f i).seed) := fun i => by rw [← hT]; rfl
  generalize bookV b key gg ng = V at *
  generalize hmu : mutualB key = mu at *
  have HMU := Lib.hid hmu
  have HFA := Lib.hid hfa
  have HTA := Lib.hid hta
  have CMU : Hid (∀ wa, Calls Tryz.prog 108 #[.int .i64 key] wa fun e w' => e = .returned (.bool mu) ∧ Below wa.heap.size wa w') := fun wa => by rw [← HMU.out]; exact (isMutual_spec key wa).mono fun _ _ h => ⟨h.1, by rw [← h.2]; exact Below.refl _ _⟩
  have b0 := (Below.refl w.heap.size w).alloc (Nat.le_refl _) (.cells #[.slice fa b.nf fc, .int .i64 b.win, .int .i64 b.draw, .int .i64 b.loss, .slice la b.nl lc, .bool b.again, .slice ga b.m gc, .slice qa b.nfa qc, .slice ta b.nta tc] 29)
  have BX0 := Lib.hid (BoxN.made (Below.refl (w.alloc (.cells #[.slice fa b.nf fc, .int .i64 b.win, .int .i64 b.draw, .int .i64 b.loss, .slice la b.nl lc, .bool b.again, .slice ga b.m gc, .slice qa b.nfa qc, .slice ta b.nta tc] 29)).heap.size (w.alloc (.cells #[.slice fa b.nf fc, .int .i64 b.win, .int .i64 b.draw, .int .i64 b.loss, .slice la b.nl lc, .bool b.again, .slice ga b.m gc, .slice qa b.nfa qc, .slice ta b.nta tc] 29))) (B := w.heap.size) rfl)
  have BR0 := Lib.hid (h.below b0 (Nat.le_refl _))
  have GR0 := Lib.hid (hgv.below b0 (Nat.le_refl _))
  have HB0 := Lib.hid b0
  clear h b0 hT hmu hp hgv hfa hta
  go_enter Tryz.func98, Tryz.ntmps98
  obtain ⟨S, HSd⟩ : ∃ S : World → Prop, S = fun w' => BoxN w' w.heap.size [.slice fa b.nf fc, .int .i64 b.win, .int .i64 b.draw, .int .i64 b.loss, .slice la b.nl lc, .bool b.again, .slice ga b.m gc, .slice qa b.nfa qc, .slice ta b.nta tc] ∧ BookRow w' (.slice fa b.nf fc) (.slice la b.nl lc) (.slice ga b.m gc) (.slice qa b.nfa qc) (.slice ta b.nta tc) b ∧ IntRow w' gv ng gg ∧ Below w.heap.size w w' := ⟨_, rfl⟩
  have KS : Hid (∀ wa wb, S wa → Below wa.heap.size wa wb → S wb) := by subst HSd; exact fun wa wb ⟨bx, br, gr, hb⟩ b0 => ⟨bx.below b0, br.below b0 (Nat.le_refl _), gr.below b0 (Nat.le_refl _), hb.trans (b0.mono hb.size)⟩
  have OS : Hid (∀ wa, S wa → BoxN wa w.heap.size [.slice fa b.nf fc, .int .i64 b.win, .int .i64 b.draw, .int .i64 b.loss, .slice la b.nl lc, .bool b.again, .slice ga b.m gc, .slice qa b.nfa qc, .slice ta b.nta tc] ∧ BookRow wa (.slice fa b.nf fc) (.slice la b.nl lc) (.slice ga b.m gc) (.slice qa b.nfa qc) (.slice ta b.nta tc) b ∧ IntRow wa gv ng gg ∧ Below w.heap.size w wa) := by subst HSd; exact fun wa h => h
  have KS0 : Hid (S (w.alloc (.cells #[.slice fa b.nf fc, .int .i64 b.win, .int .i64 b.draw, .int .i64 b.loss, .slice la b.nl lc, .bool b.again, .slice ga b.m gc, .slice qa b.nfa qc, .slice ta b.nta tc] 29)).drew) := by subst HSd; exact ⟨BX0.out.below (Below.refl _ _).drew, BR0.out.below (Below.refl _ _).drew (Nat.le_refl _), GR0.out.below (Below.refl _ _).drew (Nat.le_refl _), HB0.out.drew⟩
  clear HSd
  go_wp2_with fail
  refine wp_region_held_drew (S := S) (by kernel_rfl) ?_ (fun hHeld => ?_)
  · exact KS0.out
  clear KS0 
  refine wpAnyH_take (i := 0) (v := ?_) rfl (by kernel_rfl) (by kernel_rfl) (by kernel_rfl) (fun _ _ _ h => h) (Or.inl ⟨by rfl, ?_⟩) hHeld ?_
  rotate_left
  · (intro wa hSw; obtain ⟨bx, br, gr, hb⟩ := OS.out _ hSw; skip; go_simp; try with_reducible rfl)
  simp only [Act.put, List.getElem_toArray, List.getElem_cons_zero, List.setIfInBounds_toArray, List.set_cons_zero, List.set_cons_succ]
  refine wpAnyH_take (i := 1) (v := ?_) rfl (by kernel_rfl) (by kernel_rfl) (by kernel_rfl) (fun _ _ _ h => h) (Or.inl ⟨by rfl, ?_⟩) hHeld ?_
  rotate_left
  · (intro wa hSw; obtain ⟨bx, br, gr, hb⟩ := OS.out _ hSw; have d0 := bx.2 0 _ rfl; have d1 := bx.2 1 _ rfl; have d2 := bx.2 2 _ rfl; have d3 := bx.2 3 _ rfl; have d4 := bx.2 4 _ rfl; have d5 := bx.2 5 _ rfl; have d6 := bx.2 6 _ rfl; have d7 := bx.2 7 _ rfl; have d8 := bx.2 8 _ rfl; go_simp; try with_reducible rfl)
  simp only [Act.put, List.getElem_toArray, List.getElem_cons_zero, List.getElem_cons_succ, List.setIfInBounds_toArray, List.set_cons_zero, List.set_cons_succ]
  refine wpAnyH_take (i := 2) (v := ?_) rfl (by kernel_rfl) (by kernel_rfl) (by kernel_rfl) (fun _ _ _ h => h) (Or.inl ⟨by rfl, ?_⟩) hHeld ?_
  rotate_left
  · (intro wa hSw; obtain ⟨bx, br, gr, hb⟩ := OS.out _ hSw; skip; go_simp; try with_reducible rfl)
  simp only [Act.put, List.getElem_toArray, List.getElem_cons_zero, List.getElem_cons_succ, List.setIfInBounds_toArray, List.set_cons_zero, List.set_cons_succ]
  refine wpAnyH_take (i := 3) (v := ?_) rfl (by kernel_rfl) (by kernel_rfl) (by kernel_rfl) (fun _ _ _ h => h) (Or.inl ⟨by rfl, ?_⟩) hHeld ?_
  rotate_left
  · (intro wa hSw; obtain ⟨bx, br, gr, hb⟩ := OS.out _ hSw; have d0 := bx.2 0 _ rfl; have d1 := bx.2 1 _ rfl; have d2 := bx.2 2 _ rfl; have d3 := bx.2 3 _ rfl; have d4 := bx.2 4 _ rfl; have d5 := bx.2 5 _ rfl; have d6 := bx.2 6 _ rfl; have d7 := bx.2 7 _ rfl; have d8 := bx.2 8 _ rfl; go_simp; try with_reducible rfl)
  simp only [Act.put, List.getElem_toArray, List.getElem_cons_zero, List.getElem_cons_succ, List.setIfInBounds_toArray, List.set_cons_zero, List.set_cons_succ]
  refine wpAnyH_take (i := 4) (v := ?_) rfl (by kernel_rfl) (by kernel_rfl) (by kernel_rfl) (fun _ _ _ h => h) (Or.inl ⟨by rfl, ?_⟩) hHeld ?_
  rotate_left
  · (intro wa hSw; obtain ⟨bx, br, gr, hb⟩ := OS.out _ hSw; skip; go_simp; try with_reducible rfl)
  simp only [Act.put, List.getElem_toArray, List.getElem_cons_zero, List.getElem_cons_succ, List.setIfInBounds_toArray, List.set_cons_zero, List.set_cons_succ]
  refine wpAnyH_take (i := 5) (v := ?_) rfl (by kernel_rfl) (by kernel_rfl) (by kernel_rfl) (fun _ _ _ h => h) (Or.inl ⟨by rfl, ?_⟩) hHeld ?_
  rotate_left
  · (intro wa hSw; obtain ⟨bx, br, gr, hb⟩ := OS.out _ hSw; skip; go_simp; try with_reducible rfl)
  simp only [Act.put, List.getElem_toArray, List.getElem_cons_zero, List.getElem_cons_succ, List.setIfInBounds_toArray, List.set_cons_zero, List.set_cons_succ]
  refine wpAnyH_take (i := 6) (v := ?_) rfl (by kernel_rfl) (by kernel_rfl) (by kernel_rfl) (fun _ _ _ h => h) (Or.inl ⟨by rfl, ?_⟩) hHeld ?_
  rotate_left
  · (intro wa hSw; obtain ⟨bx, br, gr, hb⟩ := OS.out _ hSw; have d0 := bx.2 0 _ rfl; have d1 := bx.2 1 _ rfl; have d2 := bx.2 2 _ rfl; have d3 := bx.2 3 _ rfl; have d4 := bx.2 4 _ rfl; have d5 := bx.2 5 _ rfl; have d6 := bx.2 6 _ rfl; have d7 := bx.2 7 _ rfl; have d8 := bx.2 8 _ rfl; go_simp; try with_reducible rfl)
  simp only [Act.put, List.getElem_toArray, List.getElem_cons_zero, List.getElem_cons_succ, List.setIfInBounds_toArray, List.set_cons_zero, List.set_cons_succ]
  refine wpAnyH_take (i := 7) (v := ?_) rfl (by kernel_rfl) (by kernel_rfl) (by kernel_rfl) (fun _ _ _ h => h) (Or.inl ⟨by rfl, ?_⟩) hHeld ?_
  rotate_left
  · (intro wa hSw; obtain ⟨bx, br, gr, hb⟩ := OS.out _ hSw; skip; go_simp; try with_reducible rfl)
  simp only [Act.put, List.getElem_toArray, List.getElem_cons_zero, List.getElem_cons_succ, List.setIfInBounds_toArray, List.set_cons_zero, List.set_cons_succ]
  refine wpAnyH_take (i := 8) (v := ?_) rfl (by kernel_rfl) (by kernel_rfl) (by kernel_rfl) (fun _ _ _ h => h) (Or.inl ⟨by rfl, ?_⟩) hHeld ?_
  rotate_left
  · (intro wa hSw; obtain ⟨bx, br, gr, hb⟩ := OS.out _ hSw; skip; go_simp; try with_reducible rfl)
  simp only [Act.put, List.getElem_toArray, List.getElem_cons_zero, List.getElem_cons_succ, List.setIfInBounds_toArray, List.set_cons_zero, List.set_cons_succ]
  refine wpAnyH_ready (rs := [9]) (by kernel_rfl) (by simp) ?_
  refine AllReadyH.cons (o := _) rfl (fun K hK => ?_) AllReadyH.nil
  go_simp
  obtain ⟨bx, br, gr, hb⟩ := OS.out _ hHeld
  refine (CMU.out _).mono ?_
  rintro e w101 ⟨rfl, b101⟩
  clear bx br gr hb
  (try go_wp2_with fail)
  refine hK.out _ _ ?_ (fun hHeld101 => ?_)
  · exact KS.out _ _ hHeld b101
  clear hK K
  refine wpAnyH_take (i := 10) (v := ?_) rfl (by kernel_rfl) (by kernel_rfl) (by kernel_rfl) (fun _ _ _ h => h) (Or.inl ⟨by rfl, ?_⟩) hHeld101 ?_
  rotate_left
  · (intro wa hSw; obtain ⟨bx, br, gr, hb⟩ := OS.out _ hSw; skip; go_simp; try with_reducible rfl)
  simp only [Act.put, List.getElem_toArray, List.getElem_cons_zero, List.getElem_cons_succ, List.setIfInBounds_toArray, List.set_cons_zero, List.set_cons_succ]
  refine wpAnyH_ready (rs := [11]) (by kernel_rfl) (by simp) ?_
  refine AllReadyH.cons (o := _) rfl (fun K hK => ?_) AllReadyH.nil
  go_simp
  obtain ⟨bx, br, gr, hb⟩ := OS.out _ hHeld101
  refine (CAM.out _ br.2.2.1 gr).mono ?_
  rintro e w102 ⟨v7, xs7, rfl, ho7, hc7, b102⟩
  clear bx br gr hb
  have ho8 := Lib.hid ho7
  have hc8 := Lib.hid hc7
  clear ho7 hc7
  (try go_wp2_with fail)
  refine hK.out _ _ ?_ (fun hHeld102 => ?_)
  · exact KS.out _ _ hHeld101 b102
  clear hK K
  clear hHeld101
  refine wpAnyH_take (i := 12) (v := ?_) rfl (by kernel_rfl) (by kernel_rfl) (by kernel_rfl) (fun _ _ _ h => h) (Or.inl ⟨by rfl, ?_⟩) hHeld102 ?_
  rotate_left
  · (intro wa hSw; obtain ⟨bx, br, gr, hb⟩ := OS.out _ hSw; skip; go_simp; try with_reducible rfl)
  simp only [Act.put, List.getElem_toArray, List.getElem_cons_zero, List.getElem_cons_succ, List.setIfInBounds_toArray, List.set_cons_zero, List.set_cons_succ]
  refine wpAnyH_done (by kernel_rfl) ?_ _
  obtain ⟨bx, br, gr, hb⟩ := OS.out _ hHeld102
  clear KS OS hHeld hHeld102
  have RR := Lib.hid (show RowRow _ _ _ T from RecRow.of_owns ho8.out (by omega) hc8.out (fun _ _ => Nat.le_refl _))
  obtain ⟨s7a, s7c, rfl⟩ := owns_form ho8.out
  have HBR := Lib.hid br
  have HBX := Lib.hid bx
  have HHB := Lib.hid hb
  have o0 := World.ownsRow_lit (e := 3) (size := 1) w102 #[] 0 (Nat.le_refl _) (by decide) rfl
  have HO0 := Lib.hid o0
  have HB9 := Lib.hid ((Below.refl w102.heap.size w102).alloc (Nat.le_refl _) (.cells #[] 3))
  clear ho8 hc8 o0 br bx gr hb BX0 BR0 GR0 HB0
  go_wp2
  go_loopw [8, 27] (fun ov iv wr => ∃ k : Nat, k ≤ b.nf ∧ iv = .int .i64 k ∧ Hid (wr.ownsRow w102.heap.size 3 1 ov k ((valsL V k).map (Value.int .i64))) ∧ Hid (Below w102.heap.size w102 wr)) (fun _ iv _ => b.nf - (intOf iv).toNat)
  case atStart => exact ⟨0, Nat.zero_le _, rfl, HO0, HB9⟩
  case round =>
    clear HO0 HB9
    obtain ⟨k, hk, rfl, HO, HB⟩ := hrel
    by_cases hlt : k < b.nf
    · have RRw := RR.out.below HB.out (Nat.le_refl _)
      obtain ⟨b7, o7, rfl, hcap7, p7⟩ := row_of RRw hlt
      obtain ⟨c0, c1, c2, c3, c4, c5, c6⟩ := row_cells p7
      have BRw := HBR.out.below HB.out (Nat.le_refl _)
      obtain ⟨q1, p1, rfl, hcq, u1⟩ : ∃ bo off, qa = some ⟨bo, off, none⟩ ∧ b.nfa ≤ qc ∧ wr.cell? ⟨bo, off + k, none⟩ = some (.int .i64 (b.fa k)) := int_at BRw.2.2.2.1 (by have := HFA.out; omega)
      obtain ⟨q2, p2, rfl, hct, u2⟩ : ∃ bo off, ta = some ⟨bo, off, none⟩ ∧ b.nta ≤ tc ∧ wr.cell? ⟨bo, off + k, none⟩ = some (.int .i64 (b.ta k)) := int_at BRw.2.2.2.2 (by have := HTA.out; omega)
      obtain ⟨q3, p3, rfl, hcf, u3⟩ : ∃ bo off, fa = some ⟨bo, off, none⟩ ∧ b.nf ≤ fc ∧ wr.cell? ⟨bo, off + k * 3 + 2, none⟩ = some (.int .i64 (b.f k).seed) := by
        obtain ⟨a, cap, he, _, hc⟩ := BRw.1.form'
        simp only [Value.slice.injEq, true_and] at he
        obtain ⟨rfl, rfl⟩ := he
        obtain ⟨bo, off, rfl, hcc, hcs⟩ := hc (by omega)
        exact ⟨bo, off, rfl, hcc, (hcs k hlt).2.2⟩
      have hq1 : q1 < wr.heap.size := World.block_lt_of_cell? wr _ u1
      have hq2 : q2 < wr.heap.size := World.block_lt_of_cell? wr _ u2
      have hq3 : q3 < wr.heap.size := World.block_lt_of_cell? wr _ u3
      have e1 : (k : Int) < b.nfa := by have := HFA.out; omega
      have e2 : (k : Int) < b.nta := by have := HTA.out; omega
      have e3 : (k : Int) < b.nf := by omega
      have e1n : k < b.nfa := by omega
      have e2n : k < b.nta := by omega
      have x3 := (HBX.out.below HB.out).2 0 _ rfl
      have x7 := (HBX.out.below HB.out).2 7 _ rfl
      have x8 := (HBX.out.below HB.out).2 8 _ rfl
      have hBl := HBX.out.1
      have hBl2 : w.heap.size < wr.heap.size := Nat.lt_of_lt_of_le hBl HB.out.size
      have HVk0 := Lib.hid (HVd.out k)
      generalize T k = y at *
      generalize b.fa k = fk at *
      generalize b.ta k = tk at *
      generalize (b.f k).seed = sk at *
      have hsz := HB.out.size
      have hg0 : Below wr.heap.size wr (wr.alloc (.cells #[.int .i64 y.played, .int .i64 y.wins, .int .i64 y.draws, .int .i64 y.losses, .int .i64 y.scored, .int .i64 y.against, .int .i64 y.points] 141)) := (Below.refl _ _).alloc (Nat.le_refl _) _
      have hown2 := owns_below HO.out hg0 (Nat.le_refl _)
      have hb2 := Lib.hid (HB.out.trans (hg0.mono hsz))
      have hsz2 := hb2.out.size
      have hk64 : k + 1 ≤ maxLen := by unfold maxLen; omega
      have CDF := Lib.hid (fun wa => differenceOf_spec y wa)
      clear HO HB RRw BRw hg0 p7
      by_cases k1 : key = 1
      · subst k1
        have HVk : Hid (V k = wrap64 (y.points - tk)) := HVk0.out.trans (by unfold valD; simp)
        clear HVk0
        go_wp2
        go_quiet (fail)
        go_wp2_with (at_builtin; refine wpList_pushL rfl (.tmp 77) (.tmp 79) 24 rfl w102.heap.size 3 Tryz.underlying24 hi hz0 hz1 hz2 rfl (by decide) [.int .i64 (wrap64 (y.points - tk))] rfl (by intro u hu; simp at hu; subst hu; rfl) rfl (by show Value.slice (some ⟨_, 0, none⟩) 1 1 = _; simp) (owns_drewN hown2) hk64 (by omega) hsz2 ?_; intro gg5 cc5 w5 o5 g5 at5 lt5)
        have hHB := Lib.hid ((below_drewN hb2.out _).grown g5 hsz2 (fun q hq => (hown2.lt q hq).1))
        have hO5 : Hid (w5.ownsRow w102.heap.size 3 1 (.slice (some ⟨gg5, 0, none⟩) (k + 1) cc5) (k + 1) ((valsL V (k + 1)).map (Value.int .i64))) := by rw [valsL_succ, List.map_append, HVk.out]; exact o5
        clear o5 g5 at5 hown2 HVk
        go_roundw
        case rel => exact ⟨k + 1, by omega, by go_num, hO5, hHB⟩
        case measure => simp [intOf]; omega
      have g1 : (key == 1) = false := beq_eq_false_iff_ne.2 k1
      by_cases k5 : key = 5
      · subst k5
        have HVk : Hid (V k = y.points) := HVk0.out.trans (by unfold valD; simp)
        clear HVk0
        go_wp2_with (at_builtin; refine wpList_pushL rfl (.tmp 77) (.tmp 79) 24 rfl w102.heap.size 3 Tryz.underlying24 hi hz0 hz1 hz2 rfl (by decide) [.int .i64 (y.points)] rfl (by intro u hu; simp at hu; subst hu; rfl) rfl (by show Value.slice (some ⟨_, 0, none⟩) 1 1 = _; simp) hown2 hk64 (by omega) hsz2 ?_; intro gg5 cc5 w5 o5 g5 at5 lt5)
        have hHB := Lib.hid (hb2.out.grown g5 hsz2 (fun q hq => (hown2.lt q hq).1))
        have hO5 : Hid (w5.ownsRow w102.heap.size 3 1 (.slice (some ⟨gg5, 0, none⟩) (k + 1) cc5) (k + 1) ((valsL V (k + 1)).map (Value.int .i64))) := by rw [valsL_succ, List.map_append, HVk.out]; exact o5
        clear o5 g5 at5 hown2 HVk
        go_roundw
        case rel => exact ⟨k + 1, by omega, by go_num, hO5, hHB⟩
        case measure => simp [intOf]; omega
      have g5 : (key == 5) = false := beq_eq_false_iff_ne.2 k5
      by_cases k2 : key = 2
      · subst k2
        have HVk : Hid (V k = wrap64 (y.scored - y.against)) := HVk0.out.trans (by unfold valD; simp)
        clear HVk0
        go_wp2_with fail
        refine (CDF.out _).mono ?_
        rintro e wd ⟨rfl, bd⟩
        replace hown2 := owns_below hown2 bd (Nat.le_refl _)
        replace hb2 := Lib.hid (hb2.out.trans (bd.mono hsz2))
        replace hsz2 := hb2.out.size
        clear bd
        go_wp2_with (at_builtin; refine wpList_pushL rfl (.tmp 77) (.tmp 79) 24 rfl w102.heap.size 3 Tryz.underlying24 hi hz0 hz1 hz2 rfl (by decide) [.int .i64 (wrap64 (y.scored - y.against))] rfl (by intro u hu; simp at hu; subst hu; rfl) rfl (by show Value.slice (some ⟨_, 0, none⟩) 1 1 = _; simp) hown2 hk64 (by omega) hsz2 ?_; intro gg5 cc5 w5 o5 g5 at5 lt5)
        have hHB := Lib.hid (hb2.out.grown g5 hsz2 (fun q hq => (hown2.lt q hq).1))
        have hO5 : Hid (w5.ownsRow w102.heap.size 3 1 (.slice (some ⟨gg5, 0, none⟩) (k + 1) cc5) (k + 1) ((valsL V (k + 1)).map (Value.int .i64))) := by rw [valsL_succ, List.map_append, HVk.out]; exact o5
        clear o5 g5 at5 hown2 HVk
        go_roundw
        case rel => exact ⟨k + 1, by omega, by go_num, hO5, hHB⟩
        case measure => simp [intOf]; omega
      have g2 : (key == 2) = false := beq_eq_false_iff_ne.2 k2
      by_cases k6 : key = 6
      · subst k6
        have HVk : Hid (V k = wrap64 (y.scored - y.against)) := HVk0.out.trans (by unfold valD; simp)
        clear HVk0
        go_wp2_with fail
        refine (CDF.out _).mono ?_
        rintro e wd ⟨rfl, bd⟩
        replace hown2 := owns_below hown2 bd (Nat.le_refl _)
        replace hb2 := Lib.hid (hb2.out.trans (bd.mono hsz2))
        replace hsz2 := hb2.out.size
        clear bd
        go_wp2_with (at_builtin; refine wpList_pushL rfl (.tmp 77) (.tmp 79) 24 rfl w102.heap.size 3 Tryz.underlying24 hi hz0 hz1 hz2 rfl (by decide) [.int .i64 (wrap64 (y.scored - y.against))] rfl (by intro u hu; simp at hu; subst hu; rfl) rfl (by show Value.slice (some ⟨_, 0, none⟩) 1 1 = _; simp) hown2 hk64 (by omega) hsz2 ?_; intro gg5 cc5 w5 o5 g5 at5 lt5)
        have hHB := Lib.hid (hb2.out.grown g5 hsz2 (fun q hq => (hown2.lt q hq).1))
        have hO5 : Hid (w5.ownsRow w102.heap.size 3 1 (.slice (some ⟨gg5, 0, none⟩) (k + 1) cc5) (k + 1) ((valsL V (k + 1)).map (Value.int .i64))) := by rw [valsL_succ, List.map_append, HVk.out]; exact o5
        clear o5 g5 at5 hown2 HVk
        go_roundw
        case rel => exact ⟨k + 1, by omega, by go_num, hO5, hHB⟩
        case measure => simp [intOf]; omega
      have g6 : (key == 6) = false := beq_eq_false_iff_ne.2 k6
      by_cases k3 : key = 3
      · subst k3
        have HVk : Hid (V k = y.scored) := HVk0.out.trans (by unfold valD; simp)
        clear HVk0
        go_wp2_with (at_builtin; refine wpList_pushL rfl (.tmp 77) (.tmp 79) 24 rfl w102.heap.size 3 Tryz.underlying24 hi hz0 hz1 hz2 rfl (by decide) [.int .i64 (y.scored)] rfl (by intro u hu; simp at hu; subst hu; rfl) rfl (by show Value.slice (some ⟨_, 0, none⟩) 1 1 = _; simp) hown2 hk64 (by omega) hsz2 ?_; intro gg5 cc5 w5 o5 g5 at5 lt5)
        have hHB := Lib.hid (hb2.out.grown g5 hsz2 (fun q hq => (hown2.lt q hq).1))
        have hO5 : Hid (w5.ownsRow w102.heap.size 3 1 (.slice (some ⟨gg5, 0, none⟩) (k + 1) cc5) (k + 1) ((valsL V (k + 1)).map (Value.int .i64))) := by rw [valsL_succ, List.map_append, HVk.out]; exact o5
        clear o5 g5 at5 hown2 HVk
        go_roundw
        case rel => exact ⟨k + 1, by omega, by go_num, hO5, hHB⟩
        case measure => simp [intOf]; omega
      have g3 : (key == 3) = false := beq_eq_false_iff_ne.2 k3
      by_cases k4 : key = 4
      · subst k4
        have HVk : Hid (V k = y.wins) := HVk0.out.trans (by unfold valD; simp)
        clear HVk0
        go_wp2_with (at_builtin; refine wpList_pushL rfl (.tmp 77) (.tmp 79) 24 rfl w102.heap.size 3 Tryz.underlying24 hi hz0 hz1 hz2 rfl (by decide) [.int .i64 (y.wins)] rfl (by intro u hu; simp at hu; subst hu; rfl) rfl (by show Value.slice (some ⟨_, 0, none⟩) 1 1 = _; simp) hown2 hk64 (by omega) hsz2 ?_; intro gg5 cc5 w5 o5 g5 at5 lt5)
        have hHB := Lib.hid (hb2.out.grown g5 hsz2 (fun q hq => (hown2.lt q hq).1))
        have hO5 : Hid (w5.ownsRow w102.heap.size 3 1 (.slice (some ⟨gg5, 0, none⟩) (k + 1) cc5) (k + 1) ((valsL V (k + 1)).map (Value.int .i64))) := by rw [valsL_succ, List.map_append, HVk.out]; exact o5
        clear o5 g5 at5 hown2 HVk
        go_roundw
        case rel => exact ⟨k + 1, by omega, by go_num, hO5, hHB⟩
        case measure => simp [intOf]; omega
      have g4 : (key == 4) = false := beq_eq_false_iff_ne.2 k4
      by_cases k7 : key = 7
      · subst k7
        have HVk : Hid (V k = wrap64 (-fk)) := HVk0.out.trans (by unfold valD; simp)
        clear HVk0
        go_wp2_with (at_builtin; refine wpList_pushL rfl (.tmp 77) (.tmp 79) 24 rfl w102.heap.size 3 Tryz.underlying24 hi hz0 hz1 hz2 rfl (by decide) [.int .i64 (wrap64 (-fk))] rfl (by intro u hu; simp at hu; subst hu; rfl) rfl (by show Value.slice (some ⟨_, 0, none⟩) 1 1 = _; simp) hown2 hk64 (by omega) hsz2 ?_; intro gg5 cc5 w5 o5 g5 at5 lt5)
        have hHB := Lib.hid (hb2.out.grown g5 hsz2 (fun q hq => (hown2.lt q hq).1))
        have hO5 : Hid (w5.ownsRow w102.heap.size 3 1 (.slice (some ⟨gg5, 0, none⟩) (k + 1) cc5) (k + 1) ((valsL V (k + 1)).map (Value.int .i64))) := by rw [valsL_succ, List.map_append, HVk.out]; exact o5
        clear o5 g5 at5 hown2 HVk
        go_roundw
        case rel => exact ⟨k + 1, by omega, by go_num, hO5, hHB⟩
        case measure => simp [intOf]; omega
      have g7 : (key == 7) = false := beq_eq_false_iff_ne.2 k7
      by_cases k8 : key = 8
      · subst k8
        have HVk : Hid (V k = wrap64 (-sk)) := HVk0.out.trans (by unfold valD; simp)
        clear HVk0
        go_wp2_with (at_builtin; refine wpList_pushL rfl (.tmp 77) (.tmp 79) 24 rfl w102.heap.size 3 Tryz.underlying24 hi hz0 hz1 hz2 rfl (by decide) [.int .i64 (wrap64 (-sk))] rfl (by intro u hu; simp at hu; subst hu; rfl) rfl (by show Value.slice (some ⟨_, 0, none⟩) 1 1 = _; simp) hown2 hk64 (by omega) hsz2 ?_; intro gg5 cc5 w5 o5 g5 at5 lt5)
        have hHB := Lib.hid (hb2.out.grown g5 hsz2 (fun q hq => (hown2.lt q hq).1))
        have hO5 : Hid (w5.ownsRow w102.heap.size 3 1 (.slice (some ⟨gg5, 0, none⟩) (k + 1) cc5) (k + 1) ((valsL V (k + 1)).map (Value.int .i64))) := by rw [valsL_succ, List.map_append, HVk.out]; exact o5
        clear o5 g5 at5 hown2 HVk
        go_roundw
        case rel => exact ⟨k + 1, by omega, by go_num, hO5, hHB⟩
        case measure => simp [intOf]; omega
      have g8 : (key == 8) = false := beq_eq_false_iff_ne.2 k8
      have HVk : Hid (V k = 0) := HVk0.out.trans (by unfold valD; simp [k1, k2, k3, k4, k5, k6, k7, k8])
      clear HVk0 k1 k2 k3 k4 k5 k6 k7 k8
      go_wp2_with (at_builtin; refine wpList_pushL rfl (.tmp 77) (.tmp 79) 24 rfl w102.heap.size 3 Tryz.underlying24 hi hz0 hz1 hz2 rfl (by decide) [.int .i64 (0)] rfl (by intro u hu; simp at hu; subst hu; rfl) rfl (by show Value.slice (some ⟨_, 0, none⟩) 1 1 = _; simp) hown2 hk64 (by omega) hsz2 ?_; intro gg5 cc5 w5 o5 g5 at5 lt5)
      have hHB := Lib.hid (hb2.out.grown g5 hsz2 (fun q hq => (hown2.lt q hq).1))
      have hO5 : Hid (w5.ownsRow w102.heap.size 3 1 (.slice (some ⟨gg5, 0, none⟩) (k + 1) cc5) (k + 1) ((valsL V (k + 1)).map (Value.int .i64))) := by rw [valsL_succ, List.map_append, HVk.out]; exact o5
      clear o5 g5 at5 hown2 HVk
      go_roundw
      case rel => exact ⟨k + 1, by omega, by go_num, hO5, hHB⟩
      case measure => simp [intOf]; omega
    · obtain rfl : b.nf = k := by omega
      have hbE := HHB.out.trans (HB.out.mono HHB.out.size)
      have hoE := owns_mono HO.out HHB.out.size
      go_wp2
      go_ret
      have hlen : (valsL V b.nf).length = b.nf := by unfold valsL; simp
      exact ⟨_, rfl, by rw [hlen]; exact hoE, hbE⟩

end Go.Proofs.YtakbolkdbpehoaaGreat
set_option linter.unusedVariables false
namespace Go.Proofs.YtakbolkdbpehoaaGreat
open Go.RowKit

/-- the value is asked of a valid book and a team of its field -/
def keyP (b : BookD) (team : Int) : Prop := bookP b ∧ 0 ≤ team ∧ team ≤ b.nf - 1
end Go.Proofs.YtakbolkdbpehoaaGreat
set_option linter.unusedVariables false
namespace Go.Proofs.YtakbolkdbpehoaaGreat
open Go.RowKit

/-- all teams of a group exist -/
def teamsP (n : Nat) (ng : Nat) (gg : Nat → Int) : Prop := ∀ i, i < ng → 0 ≤ gg i ∧ gg i ≤ (n : Int) - 1
theorem l07Teams_spec (vf vl vg vfa vta : Value) (b : BookD) (gv : Value) (ng : Nat) (gg : Nat → Int) (R : Bool) (w : World) (hR : R = true ↔ teamsP b.nf ng gg) (h : BookRow w vf vl vg vfa vta b) (hgv : IntRow w gv ng gg) :
    Calls Tryz.prog 53 #[.agg #[vf, .int .i64 b.win, .int .i64 b.draw, .int .i64 b.loss, vl, .bool b.again, vg, vfa, vta], gv] w fun e w' => e = .returned (.bool R) ∧ Below w.heap.size w w' := by
  obtain ⟨fa, fc, la, lc, ga, gc, qa, qc, ta, tc, rfl, rfl, rfl, rfl, rfl⟩ := h.form
  have hn64 : (b.nf : Int) ≤ 9223372036854775807 := by obtain ⟨_, _, _, hq, _⟩ := h.1.form; omega
  have HN := Lib.hid (boolF hR)
  have HY := Lib.hid (boolT hR)
  obtain ⟨xa, xc, rfl, hx64, _⟩ := hgv.form
  have b0 := (Below.refl w.heap.size w).alloc (Nat.le_refl _) (.cells #[.slice fa b.nf fc, .int .i64 b.win, .int .i64 b.draw, .int .i64 b.loss, .slice la b.nl lc, .bool b.again, .slice ga b.m gc, .slice qa b.nfa qc, .slice ta b.nta tc] 29)
  have BX0 := Lib.hid (BoxN.made (Below.refl (w.alloc (.cells #[.slice fa b.nf fc, .int .i64 b.win, .int .i64 b.draw, .int .i64 b.loss, .slice la b.nl lc, .bool b.again, .slice ga b.m gc, .slice qa b.nfa qc, .slice ta b.nta tc] 29)).heap.size (w.alloc (.cells #[.slice fa b.nf fc, .int .i64 b.win, .int .i64 b.draw, .int .i64 b.loss, .slice la b.nl lc, .bool b.again, .slice ga b.m gc, .slice qa b.nfa qc, .slice ta b.nta tc] 29))) (B := w.heap.size) rfl)
  have GR0 := Lib.hid (hgv.below b0 (Nat.le_refl _))
  have HB0 := Lib.hid b0
  clear hR h hgv b0
  go_enter Tryz.func53, Tryz.ntmps53
  go_wp2
  go_loop [9] (fun i => ∃ k : Nat, k ≤ ng ∧ i = .int .i64 k ∧ Hid (∀ i, i < k → 0 ≤ gg i ∧ gg i ≤ (b.nf : Int) - 1)) (fun i => ng - (intOf i).toNat)
  case atStart => exact ⟨0, Nat.zero_le _, rfl, fun i hi => absurd hi (by omega)⟩
  case round =>
    obtain ⟨k, hk, rfl, hok⟩ := hrel
    by_cases hlt : k < ng
    · obtain ⟨q1, p1, rfl, hcq, u1⟩ := int_at GR0.out hlt
      have d0 := BX0.out.2 0 _ rfl
      have hS : Hid ((0 ≤ gg k ∧ gg k ≤ (b.nf : Int) - 1) → ∀ i, i < k + 1 → 0 ≤ gg i ∧ gg i ≤ (b.nf : Int) - 1) := fun h i hi => by
        by_cases hik : i = k
        · subst hik; exact h
        · exact hok.out i (by omega)
      have HNk := Lib.hid (fun (h : ¬ (0 ≤ gg k ∧ gg k ≤ (b.nf : Int) - 1)) => HN.out fun hp => h (hp k hlt))
      have hlt' : (k : Int) < ng := by omega
      clear hok HN HY
      generalize gg k = x at *
      by_cases hx : 0 ≤ x ∧ x ≤ (b.nf : Int) - 1
      case neg =>
        obtain rfl := HNk.out hx
        clear HNk hS
        go_wp2_with (go_at_call 97; refine (l01In_no _ _ _ _ hx).mono ?_; rintro e w2 ⟨rfl, rfl⟩)
        go_ret
        exact ⟨rfl, HB0.out⟩
      have HSk := Lib.hid (hS.out hx)
      clear HNk hS
      go_wp2_with (go_at_call 97; refine (l01In_yes _ _ _ _ hx).mono ?_; rintro e w2 ⟨rfl, rfl⟩)
      go_round
      case rel => exact ⟨k + 1, by omega, by go_num, HSk.out⟩
      case measure => simp [intOf]; omega
    · obtain rfl : ng = k := by omega
      obtain rfl := HY.out hok.out
      clear HN HY hok
      go_wp2
      go_ret
      exact ⟨rfl, HB0.out⟩
theorem l07All_spec (vf vl vg vfa vta : Value) (b : BookD) (w : World) (h : BookRow w vf vl vg vfa vta b) (hn6 : b.nf ≤ 1048576) :
    Calls Tryz.prog 71 #[.agg #[vf, .int .i64 b.win, .int .i64 b.draw, .int .i64 b.loss, vl, .bool b.again, vg, vfa, vta]] w (IntsL w (valsL (fun i => (i : Int)) b.nf)) := by
  obtain ⟨i0, hi, hz0, hz1, hz2⟩ := info_parts Tryz.infoI
  obtain ⟨fa, fc, la, lc, ga, gc, qa, qc, ta, tc, rfl, rfl, rfl, rfl, rfl⟩ := h.form
  have b0 := (Below.refl w.heap.size w).alloc (Nat.le_refl _) (.cells #[.slice fa b.nf fc, .int .i64 b.win, .int .i64 b.draw, .int .i64 b.loss, .slice la b.nl lc, .bool b.again, .slice ga b.m gc, .slice qa b.nfa qc, .slice ta b.nta tc] 29)
  have BX0 := BoxN.made (Below.refl (w.alloc (.cells #[.slice fa b.nf fc, .int .i64 b.win, .int .i64 b.draw, .int .i64 b.loss, .slice la b.nl lc, .bool b.again, .slice ga b.m gc, .slice qa b.nfa qc, .slice ta b.nta tc] 29)).heap.size (w.alloc (.cells #[.slice fa b.nf fc, .int .i64 b.win, .int .i64 b.draw, .int .i64 b.loss, .slice la b.nl lc, .bool b.again, .slice ga b.m gc, .slice qa b.nfa qc, .slice ta b.nta tc] 29))) (B := w.heap.size) rfl
  have d0 := BX0.2 0 _ rfl
  have hl0 := BX0.1
  have o0 := World.ownsRow_lit (e := 3) (size := 1) (w.alloc (.cells #[.slice fa b.nf fc, .int .i64 b.win, .int .i64 b.draw, .int .i64 b.loss, .slice la b.nl lc, .bool b.again, .slice ga b.m gc, .slice qa b.nfa qc, .slice ta b.nta tc] 29)) #[] 0 (Nat.le_refl _) (by decide) rfl
  have HO0 := Lib.hid (owns_mono (base' := w.heap.size) o0 (by simp))
  have HB0 := Lib.hid (b0.alloc (by simp) (.cells #[] 3))
  have es : (w.alloc (.cells #[.slice fa b.nf fc, .int .i64 b.win, .int .i64 b.draw, .int .i64 b.loss, .slice la b.nl lc, .bool b.again, .slice ga b.m gc, .slice qa b.nfa qc, .slice ta b.nta tc] 29)).heap.size = w.heap.size + 1 := by simp
  rw [es] at HO0
  clear h b0 BX0 o0 es
  go_enter Tryz.func71, Tryz.ntmps71
  go_wp2
  go_loopw [3, 9] (fun ov iv wr => ∃ k : Nat, k ≤ b.nf ∧ iv = .int .i64 k ∧ Hid (wr.ownsRow w.heap.size 3 1 ov k ((valsL (fun i => (i : Int)) k).map (Value.int .i64))) ∧ Hid (Below w.heap.size w wr)) (fun _ iv _ => b.nf - (intOf iv).toNat)
  case atStart => exact ⟨0, Nat.zero_le _, rfl, HO0, HB0⟩
  case round =>
    clear HO0 HB0 d0 hl0
    obtain ⟨k, hk, rfl, HO, HB⟩ := hrel
    by_cases hlt : k < b.nf
    · have hown := HO.out
      have hsz := HB.out.size
      have hk64 : k + 1 ≤ maxLen := by unfold maxLen; omega
      go_wp2_with (at_builtin; refine wpList_pushL rfl (.tmp 12) (.tmp 14) 24 rfl w.heap.size 3 Tryz.underlying24 hi hz0 hz1 hz2 rfl (by decide) [.int .i64 k] rfl (by intro u hu; simp at hu; subst hu; rfl) rfl (by show Value.slice (some ⟨_, 0, none⟩) 1 1 = _; simp) hown hk64 (by omega) hsz ?_; intro gg5 cc5 w5 o5 g5 at5 lt5)
      have hHB := Lib.hid (HB.out.grown g5 hsz (fun q hq => (hown.lt q hq).1))
      have hO5 : Hid (w5.ownsRow w.heap.size 3 1 (.slice (some ⟨gg5, 0, none⟩) (k + 1) cc5) (k + 1) ((valsL (fun i => (i : Int)) (k + 1)).map (Value.int .i64))) := by rw [valsL_succ, List.map_append]; exact o5
      clear o5 g5 at5 hown HO HB
      go_roundw
      case rel => exact ⟨k + 1, by omega, by go_num, hO5, hHB⟩
      case measure => simp [intOf]; omega
    · obtain rfl : b.nf = k := by omega
      have hlen : (valsL (fun i => (i : Int)) b.nf).length = b.nf := by unfold valsL; simp
      go_wp2
      go_ret
      exact ⟨_, rfl, by rw [hlen]; exact HO.out, HB.out⟩
end Go.Proofs.YtakbolkdbpehoaaGreat
