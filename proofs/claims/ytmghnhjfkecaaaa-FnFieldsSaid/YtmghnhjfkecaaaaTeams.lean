/-
  The laws' helpers on teams: szTeam, toTeam, szTeamS, toTeamS, eqTeam, eqTeamS, markTeamS.
-/
import Derived.Test.YtmghnhjfkecaaaaMarks
import Derived.Test.YtmghnhjfkecaaaaKit
set_option linter.unusedVariables false
namespace Go.Proofs.Ytmghnhjfkecaaaa
open Go.RowKit

/-- a team's data -/
structure TeamD where
  nm : ByteArray
  club : Int
  seed : Int
def TeamD.val (t : TeamD) : Value := .agg #[.string t.nm, .int .i64 t.club, .int .i64 t.seed]
def TeamD.cells (t : TeamD) : List Value := [.string t.nm, .int .i64 t.club, .int .i64 t.seed]
/-- v is a slice of n teams (cells at k, k+1, k+2 for team number k/3) that reads g in w -/
def TeamRow (w : World) (v : Value) (n : Nat) (g : Nat → TeamD) : Prop :=
  (∃ a cap, v = .slice a 0 cap ∧ n = 0) ∨ ∃ b off cap, v = .slice (some ⟨b, off, none⟩) n cap ∧ 0 < n ∧ n ≤ 9223372036854775807 ∧
    (∀ i, i < n → w.cell? ⟨b, off + i * 3, none⟩ = some (.string (g i).nm) ∧ w.cell? ⟨b, off + i * 3 + 1, none⟩ = some (.int .i64 (g i).club) ∧ w.cell? ⟨b, off + i * 3 + 2, none⟩ = some (.int .i64 (g i).seed)) ∧ n ≤ cap
theorem TeamRow.form {w : World} {v : Value} {n : Nat} {g : Nat → TeamD} (h : TeamRow w v n g) :
    ∃ a cap, v = .slice a n cap ∧ n ≤ 9223372036854775807 ∧ (0 < n → ∃ b off, a = some ⟨b, off, none⟩ ∧
      ∀ i, i < n → w.cell? ⟨b, off + i * 3, none⟩ = some (.string (g i).nm) ∧ w.cell? ⟨b, off + i * 3 + 1, none⟩ = some (.int .i64 (g i).club) ∧ w.cell? ⟨b, off + i * 3 + 2, none⟩ = some (.int .i64 (g i).seed)) := by
  rcases h with ⟨a, cap, rfl, rfl⟩ | ⟨b, off, cap, rfl, _, hn, hc, _⟩
  · exact ⟨_, _, rfl, by omega, fun h => absurd h (by omega)⟩
  · exact ⟨_, _, rfl, hn, fun _ => ⟨b, off, rfl, hc⟩⟩

def SzTeamPost (t : TeamD) (left : Int) (w : World) (e : Ending) (w' : World) : Prop :=
  (∃ r : Int, e = .returned (.int .i64 r) ∧ ((left < t.nm.size ∧ r < 0) ∨ (0 ≤ r ∧ t.nm.size + r = left))) ∧ Below w.heap.size w w'
theorem szTeam_any (t : TeamD) (left : Int) (w : World) (hs : t.nm.size ≤ 9223372036854775807) (hl0 : 0 ≤ left) (hl : left ≤ 1048576) :
    Calls Try.prog 20 #[.agg #[.string t.nm, .int .i64 t.club, .int .i64 t.seed], .int .i64 left] w (SzTeamPost t left w) := by
  obtain ⟨nm, club, seed⟩ := t
  simp only at hs ⊢
  by_cases hb : left < nm.size
  · have g0 : decide (left - (nm.size : Int) < 0) = true := decide_eq_true (by omega)
    go_enter Try.func20, Try.ntmps20
    go_wp2
    go_ret
    exact ⟨⟨_, rfl, .inl ⟨hb, by decide⟩⟩, (Below.refl _ _).alloc (Nat.le_refl _) _⟩
  · have g0 : decide (left - (nm.size : Int) < 0) = false := decide_eq_false (by omega)
    go_enter Try.func20, Try.ntmps20
    go_wp2
    go_ret
    exact ⟨⟨_, rfl, .inr ⟨by omega, by show (nm.size : Int) + _ = _; omega⟩⟩, (Below.refl _ _).alloc (Nat.le_refl _) _⟩

/-- the bytes of the first k names -/
def totT (g : Nat → TeamD) : Nat → Nat
  | 0 => 0
  | k + 1 => totT g k + (g k).nm.size
def SzTeamsPost (g : Nat → TeamD) (n left : Nat) (w : World) (e : Ending) (w' : World) : Prop :=
  (∃ r : Int, e = .returned (.int .i64 r) ∧ (r < 0 ∨ (0 ≤ r ∧ n + totT g n + r = left))) ∧ Below w.heap.size w w'
theorem szTeamS_any (v : Value) (n left : Nat) (g : Nat → TeamD) (w : World) (h : TeamRow w v n g) (hg : ∀ i, (g i).nm.size ≤ 9223372036854775807) (hl : left ≤ 1048576) :
    Calls Try.prog 24 #[v, .int .i64 (left : Int)] w (SzTeamsPost g n left w) := by
  obtain ⟨a, cap, rfl, hn, hv⟩ := h.form
  have HV := Lib.hid hv
  have HG := Lib.hid hg
  clear hv hg h
  by_cases hbig : left < n
  · have g0 : decide ((left : Int) - (n : Int) < 0) = true := decide_eq_true (by omega)
    go_enter Try.func24, Try.ntmps24
    go_wp2
    go_ret
    exact ⟨⟨_, rfl, .inl (by decide)⟩, Below.refl _ _⟩
  have g0 : decide ((left : Int) - (n : Int) < 0) = false := decide_eq_false (by omega)
  go_enter Try.func24, Try.ntmps24
  go_wp2
  go_loopw [1, 5] (fun l i wr => ∃ (j T : Nat), j ≤ n ∧ i = .int .i64 j ∧ l = .int .i64 ((left : Int) - n - T) ∧ Hid (T = totT g j) ∧ n + T ≤ left ∧ Below w.heap.size w wr) (fun _ i _ => n - (intOf i).toNat)
  case atStart => exact ⟨0, 0, Nat.zero_le _, rfl, by go_num, rfl, by omega, Below.refl _ _⟩
  case round =>
    obtain ⟨j, T, hj, rfl, rfl, hT, hTl, hb⟩ := hrel
    by_cases hlt : j < n
    · obtain ⟨b, off, rfl, hc⟩ := HV.out (by omega)
      obtain ⟨k0, k1, k2⟩ := hc j hlt
      have hblt : b < w.heap.size := World.block_lt_of_cell? w _ k0
      have c0 := (hb.cell (p := ⟨b, off + j * 3, none⟩) hblt).trans k0
      have c1 := (hb.cell (p := ⟨b, off + j * 3 + 1, none⟩) hblt).trans k1
      have c2 := (hb.cell (p := ⟨b, off + j * 3 + 2, none⟩) hblt).trans k2
      have hgj := HG.out j
      clear hc HV k0 k1 k2
      have hstep : Hid (T + (g j).nm.size = totT g (j + 1)) := by show _ = _; rw [hT.out]; rfl
      generalize g j = x at *
      go_wp2_with fail
      refine (szTeam_any x _ _ hgj (by omega) (by omega)).mono ?_
      rintro e w2 ⟨⟨r, rfl, hr⟩, b2⟩
      have hb2 := hb.trans (b2.mono hb.size)
      clear hb b2 c0 c1 c2
      rcases hr with ⟨_, hr⟩ | ⟨hr, hre⟩
      · have g1 : decide (r < 0) = true := decide_eq_true hr
        go_wp2
        go_ret
        exact ⟨⟨_, rfl, .inl (by decide)⟩, hb2⟩
      · have g1 : decide (r < 0) = false := decide_eq_false (by omega)
        obtain rfl : r = (left : Int) - n - (T + x.nm.size : Nat) := by omega
        clear hre
        go_wp2
        go_roundw
        case rel => exact ⟨j + 1, T + x.nm.size, by omega, by go_num, by go_num, hstep, by omega, hb2⟩
        case measure => simp [intOf]; omega
    · obtain rfl : j = n := by omega
      go_wp2
      go_ret
      exact ⟨⟨_, rfl, .inr ⟨by omega, by rw [← hT.out]; omega⟩⟩, hb⟩

theorem toTeam_any (t : TeamD) (w : World) :
    Calls Try.prog 22 #[.agg #[.string t.nm, .int .i64 t.club, .int .i64 t.seed]] w fun e w' => e = .returned (.agg #[.string t.nm, .int .i64 t.club, .int .i64 t.seed]) ∧ Below w.heap.size w w' := by
  obtain ⟨nm, club, seed⟩ := t
  simp only
  go_enter Try.func22, Try.ntmps22
  go_wp2
  exact bodyPost_ret (v := .agg #[.string nm, .int .i64 club, .int .i64 seed]) (by simp [results, Try.results22, go_sem]) rfl ⟨rfl, (((Below.refl _ _).alloc (Nat.le_refl _) _).alloc (by simp) _).alloc (by simp; omega) _⟩

theorem eqTeam_same (t : TeamD) (w : World) :
    Calls Try.prog 49 #[.agg #[.string t.nm, .int .i64 t.club, .int .i64 t.seed], .agg #[.string t.nm, .int .i64 t.club, .int .i64 t.seed]] w fun e w' => e = .returned (.bool true) ∧ Below w.heap.size w w' := by
  obtain ⟨nm, club, seed⟩ := t
  simp only
  go_enter Try.func49, Try.ntmps49
  go_wp2
  go_ret
  exact ⟨rfl, ((Below.refl _ _).alloc (Nat.le_refl _) _).alloc (by simp) _⟩

/-- the three cells of team number i of a row -/
theorem cells_below {w wr : World} {b off j : Nat} {t : TeamD} (hb : Below w.heap.size w wr) (h : w.cell? ⟨b, off + j * 3, none⟩ = some (.string t.nm) ∧ w.cell? ⟨b, off + j * 3 + 1, none⟩ = some (.int .i64 t.club) ∧ w.cell? ⟨b, off + j * 3 + 2, none⟩ = some (.int .i64 t.seed)) :
    wr.cell? ⟨b, off + j * 3, none⟩ = some (.string t.nm) ∧ wr.cell? ⟨b, off + j * 3 + 1, none⟩ = some (.int .i64 t.club) ∧ wr.cell? ⟨b, off + j * 3 + 2, none⟩ = some (.int .i64 t.seed) := by
  have hblt : b < w.heap.size := World.block_lt_of_cell? w _ h.1
  exact ⟨(hb.cell (p := ⟨b, off + j * 3, none⟩) hblt).trans h.1, (hb.cell (p := ⟨b, off + j * 3 + 1, none⟩) hblt).trans h.2.1, (hb.cell (p := ⟨b, off + j * 3 + 2, none⟩) hblt).trans h.2.2⟩

theorem eqTeamS_same (v1 v2 : Value) (n : Nat) (g : Nat → TeamD) (w : World) (h1 : TeamRow w v1 n g) (h2 : TeamRow w v2 n g) :
    Calls Try.prog 27 #[v1, v2] w fun e w' => e = .returned (.bool true) ∧ Below w.heap.size w w' := by
  obtain ⟨a, cap, rfl, hn, hv⟩ := h1.form
  obtain ⟨a', cap', rfl, _, hv'⟩ := h2.form
  have HV := Lib.hid hv
  have HV' := Lib.hid hv'
  clear hv hv' h1 h2
  go_enter Try.func27, Try.ntmps27
  go_wp2
  go_loopw [5] (fun i wr => ∃ k : Nat, k ≤ n ∧ i = .int .i64 k ∧ Below w.heap.size w wr) (fun i _ => n - (intOf i).toNat)
  case atStart => exact ⟨0, Nat.zero_le _, rfl, Below.refl _ _⟩
  case round =>
    obtain ⟨k, hk, rfl, hb⟩ := hrel
    by_cases hlt : k < n
    · obtain ⟨b, off, rfl, hc⟩ := HV.out (by omega)
      obtain ⟨b', off', rfl, hc'⟩ := HV'.out (by omega)
      obtain ⟨c0, c1, c2⟩ := cells_below hb (hc k hlt)
      obtain ⟨d0, d1, d2⟩ := cells_below hb (hc' k hlt)
      have hblt : b < w.heap.size := World.block_lt_of_cell? w _ (hc k hlt).1
      have hblt' : b' < w.heap.size := World.block_lt_of_cell? w _ (hc' k hlt).1
      have HB := Lib.hid hb
      have hsz := hb.size
      clear hc hc' HV HV' hb
      generalize g k = x at *
      go_wp2
      go_region_held3 (fun w' => w'.cell? ⟨b, off + k * 3, none⟩ = some (.string x.nm) ∧ w'.cell? ⟨b, off + k * 3 + 1, none⟩ = some (.int .i64 x.club) ∧ w'.cell? ⟨b, off + k * 3 + 2, none⟩ = some (.int .i64 x.seed) ∧
          w'.cell? ⟨b', off' + k * 3, none⟩ = some (.string x.nm) ∧ w'.cell? ⟨b', off' + k * 3 + 1, none⟩ = some (.int .i64 x.club) ∧ w'.cell? ⟨b', off' + k * 3 + 2, none⟩ = some (.int .i64 x.seed) ∧ Hid (Below w.heap.size w w'))
        (first
          | exact ⟨c0, c1, c2, d0, d1, d2, HB.out.drew⟩
          | exact ⟨(Below.cell hb1 (p := ⟨b, off + k * 3, none⟩) (Nat.lt_of_lt_of_le hblt hsz)).trans c0, (Below.cell hb1 (p := ⟨b, off + k * 3 + 1, none⟩) (Nat.lt_of_lt_of_le hblt hsz)).trans c1, (Below.cell hb1 (p := ⟨b, off + k * 3 + 2, none⟩) (Nat.lt_of_lt_of_le hblt hsz)).trans c2,
              (Below.cell hb1 (p := ⟨b', off' + k * 3, none⟩) (Nat.lt_of_lt_of_le hblt' hsz)).trans d0, (Below.cell hb1 (p := ⟨b', off' + k * 3 + 1, none⟩) (Nat.lt_of_lt_of_le hblt' hsz)).trans d1, (Below.cell hb1 (p := ⟨b', off' + k * 3 + 2, none⟩) (Nat.lt_of_lt_of_le hblt' hsz)).trans d2,
              HB.out.drew.trans (hb1.mono hsz)⟩)
        (first | (go_at_call 49; refine (eqTeam_same x _).mono ?_; rintro e w1 ⟨rfl, hb1⟩))
      have HB1 : Hid (Below w.heap.size w w1) := by
        rename_i hh
        exact hh.2.2.2.2.2.2
      clear hb1 HB c0 c1 c2 d0 d1 d2
      go_wp2
      go_roundw
      case rel => exact ⟨k + 1, by omega, by go_num, HB1.out⟩
      case measure => simp [intOf]; omega
    · go_wp2
      go_ret
      exact ⟨rfl, hb⟩

theorem Try.infoTeam : (Try.prog.info? 31).map (fun i => (i.zero, i.size, i.bytes)) = some (some (.agg #[.string ByteArray.empty, .int .i64 0, .int .i64 0]), 3, 32) := by kernel_rfl
/-- the call makes a slice of n teams that reads g and owns its memory -/
def TeamsMade (w : World) (n : Nat) (g : Nat → TeamD) (e : Ending) (w' : World) : Prop :=
  ∃ v, e = .returned v ∧ TeamRow w' v n g ∧ (∃ xs, w'.ownsRow w.heap.size 31 3 v n xs) ∧ Below w.heap.size w w'
theorem TeamRow.of_owns {w : World} {base : Nat} {e : TypeId} {v : Value} {n : Nat} {xs : List Value} {g : Nat → TeamD} (h : w.ownsRow base e 3 v n xs) (hn : n ≤ 9223372036854775807)
    (hg : ∀ t, t < n → xs[t * 3]? = some (.string (g t).nm) ∧ xs[t * 3 + 1]? = some (.int .i64 (g t).club) ∧ xs[t * 3 + 2]? = some (.int .i64 (g t).seed)) : TeamRow w v n g := by
  by_cases h0 : n = 0
  · subst h0
    rcases h.2 with ⟨rfl, _⟩ | ⟨b, cap, cur, rfl, _⟩
    · exact .inl ⟨_, _, rfl, rfl⟩
    · exact .inl ⟨_, _, rfl, rfl⟩
  · rcases h.2 with ⟨_, hz⟩ | ⟨b, cap, cur, rfl, _, _, hcap, _⟩
    · exact absurd hz h0
    · refine .inr ⟨b, 0, cap, rfl, by omega, hn, fun i hi => ?_, hcap⟩
      obtain ⟨h1, h2, h3⟩ := hg i hi
      simp only [Nat.zero_add]
      exact ⟨by rw [h.cellAt _ (by omega)]; exact h1, by rw [h.cellAt _ (by omega)]; exact h2, by rw [h.cellAt _ (by omega)]; exact h3⟩
theorem toTeamS_any (v : Value) (n : Nat) (g : Nat → TeamD) (w : World) (h : TeamRow w v n g) (hn : n ≤ 1048576) :
    Calls Try.prog 26 #[v] w (TeamsMade w n g) := by
  obtain ⟨i0, hi, hz0, hz1, hz2⟩ := info_parts Try.infoTeam
  obtain ⟨a, cap, rfl, _, hv⟩ := h.form
  have HV := Lib.hid hv
  clear hv h
  go_enter Try.func26, Try.ntmps26
  go_wp2_with (at_make; refine wpList_make_full _ rfl _ _ 23 rfl w.heap.size 31 i0 (.agg #[.string ByteArray.empty, .int .i64 0, .int .i64 0]) 3 Try.underlying23 hi hz0 hz1 .i64 .i64 n n n rfl rfl rfl rfl (by rw [hz2]; omega) (by unfold maxLen; omega) (Nat.le_refl _) ?_; intro w1 hown hg1)
  have hb1 : Below w.heap.size w w1 := (Below.refl _ _).grown hg1 (Nat.le_refl _) (fun k hk => by cases hk)
  clear hg1
  go_loopw [4] (fun i wr => ∃ (j : Nat) (ys : List Value), j ≤ n ∧ i = .int .i64 j ∧ wr.ownsRow w.heap.size 31 3 (.slice (some ⟨w.heap.size, 0, none⟩) n n) n ys ∧
      Hid (∀ t, t < j → ys[t * 3]? = some (.string (g t).nm) ∧ ys[t * 3 + 1]? = some (.int .i64 (g t).club) ∧ ys[t * 3 + 2]? = some (.int .i64 (g t).seed)) ∧ Below w.heap.size w wr)
    (fun i _ => n - (intOf i).toNat)
  case atStart => exact ⟨0, _, Nat.zero_le _, rfl, hown, fun t ht => absurd ht (by omega), hb1⟩
  case round =>
    obtain ⟨j, ys, hj, rfl, hown', hys, hb⟩ := hrel
    clear hown hb1
    by_cases hlt : j < n
    · obtain ⟨b, off, rfl, hc⟩ := HV.out (by omega)
      obtain ⟨c0, c1, c2⟩ := cells_below hb (hc j hlt)
      generalize hx : g j = x at *
      have Hx := Lib.hid hx
      have hlen := hown'.1
      have HL := Lib.hid hlen
      have hsz := hb.size
      clear hc HV hx hlen
      go_wp2_with (go_at_call 22; refine (toTeam_any x _).mono ?_; rintro e w2 ⟨rfl, b2⟩; have hown2 := owns_below hown' b2 (Nat.le_refl _); obtain ⟨⟨u0, e0⟩, ⟨u1, e1⟩, ⟨u2, e2⟩⟩ := owns_cells3 hown2 j hlt; have f0 := hown2.frozenAt (j * 3); have f1 := hown2.frozenAt (j * 3 + 1); have f2 := hown2.frozenAt (j * 3 + 2))
      go_roundw
      case rel =>
        have hb2 := (hb.trans (b2.mono hsz))
        refine ⟨j + 1, _, by omega, by go_num, owns_set3 hown2 j _ _ _, fun t ht => ?_, ((hb2.setCell (Nat.le_refl _) _).setCell (Nat.le_refl _) _).setCell (Nat.le_refl _) _⟩
        by_cases htj : t = j
        · subst htj
          rw [Hx.out]
          exact set3_at HL.out hlt _ _ _
        · obtain ⟨h1, h2, h3⟩ := hys.out t (by omega)
          exact ⟨(set3_other htj _ _ _ 0 (by omega)).trans h1, (set3_other htj _ _ _ 1 (by omega)).trans h2, (set3_other htj _ _ _ 2 (by omega)).trans h3⟩
      case measure => simp [intOf]; omega
    · obtain rfl : j = n := by omega
      go_wp2
      go_ret
      exact ⟨_, rfl, TeamRow.of_owns hown' (by omega) hys.out, ⟨_, hown'⟩, hb⟩

theorem markTeamS_any (v : Value) (n k base : Nat) (xs : List Value) (w : World) (hown : w.ownsRow base 31 3 v n xs) (hbase : base ≤ w.heap.size) (h0 : 0 < k) (hk : k + 3 * n ≤ 1000000000000) :
    Calls Try.prog 31 #[v, .int .i64 (k : Int)] w fun e w' => e = .returned (.int .i64 ((k : Int) + 3 * n)) ∧ Below base w w' := by
  obtain ⟨a, cap, rfl, hv⟩ : ∃ a cap, v = .slice a n cap ∧ (0 < n → ∃ g, a = some ⟨g, 0, none⟩ ∧ base ≤ g) := by
    rcases hown.2 with ⟨rfl, rfl⟩ | ⟨g, cap, cur, rfl, hg, _⟩
    · exact ⟨_, _, rfl, fun h => absurd h (by omega)⟩
    · exact ⟨_, _, rfl, fun _ => ⟨g, rfl, hg⟩⟩
  have HV := Lib.hid hv
  clear hv
  go_enter Try.func31, Try.ntmps31
  go_wp2
  go_loopw [1, 5] (fun kv i wr => ∃ (j : Nat) (ys : List Value), j ≤ n ∧ i = .int .i64 j ∧ kv = .int .i64 ((k : Int) + 3 * j) ∧ wr.ownsRow base 31 3 (.slice a n cap) n ys ∧ Below base w wr)
    (fun _ i _ => n - (intOf i).toNat)
  case atStart => exact ⟨0, xs, Nat.zero_le _, rfl, by go_num, hown, Below.refl _ _⟩
  case round =>
    obtain ⟨j, ys, hj, rfl, rfl, hown', hb⟩ := hrel
    clear hown
    by_cases hlt : j < n
    · obtain ⟨g, rfl, hg⟩ := HV.out (by omega)
      have hsz := hb.size
      clear HV
      have CM := Lib.hid (fun w => markText_any (k + 3 * j) w (by omega) (by omega))
      go_wp2_with (go_at_call 50; rw [show ((k : Int) + 3 * (j : Int)) = ((k + 3 * j : Nat) : Int) by omega]; refine (CM.out _).mono ?_; rintro e w1 ⟨rfl, hb1⟩; have hown1 := owns_below hown' hb1 (Nat.le_refl _); obtain ⟨⟨u0, e0⟩, ⟨u1, e1⟩, ⟨u2, e2⟩⟩ := owns_cells3 hown1 j hlt; have f0 := hown1.frozenAt (j * 3); have f1 := hown1.frozenAt (j * 3 + 1); have f2 := hown1.frozenAt (j * 3 + 2))
      go_roundw
      case rel =>
        have hb2 := hb.trans (hb1.mono (Nat.le_trans hbase hsz))
        exact ⟨j + 1, _, by omega, by go_num, by go_num, owns_set3 hown1 j _ _ _, ((hb2.setCell hg _).setCell hg _).setCell hg _⟩
      case measure => simp [intOf]; omega
    · obtain rfl : j = n := by omega
      go_wp2
      go_ret
      exact ⟨rfl, hb⟩
theorem markTeamS_one (v : Value) (n base : Nat) (xs : List Value) (w : World) (hown : w.ownsRow base 31 3 v n xs) (hbase : base ≤ w.heap.size) (hk : n ≤ 1048576) :
    Calls Try.prog 31 #[v, .int .i64 1] w fun e w' => e = .returned (.int .i64 ((1 : Int) + 3 * n)) ∧ Below base w w' :=
  markTeamS_any v n 1 base xs w hown hbase (by omega) (by omega)
theorem tgrown_trans {a b c : World} {row : Option Nat} (h : a.grownBy b row) (k : b.grownBy c row) : a.grownBy c row :=
  ⟨k.os.trans h.os, k.tape.trans h.tape, k.output.trans h.output, Nat.le_trans h.size k.size, fun i hi hne => (k.block i (Nat.lt_of_lt_of_le hi h.size) hne).trans (h.block i hi hne)⟩
theorem tgrown_any {a b : World} (h : a.grownBy b none) (row : Option Nat) : a.grownBy b row := ⟨h.os, h.tape, h.output, h.size, fun i hi _ => h.block i hi (by simp)⟩
theorem tgrown_refl (a : World) (row : Option Nat) : a.grownBy a row := ⟨rfl, rfl, rfl, Nat.le_refl _, fun _ _ _ => rfl⟩
/-- the same, told of everything but the slice's own block -/
theorem markTeamS_grown (v : Value) (n base : Nat) (xs : List Value) (w : World) (hown : w.ownsRow base 31 3 v n xs) (hbase : base ≤ w.heap.size) (hk : n ≤ 1048576) :
    Calls Try.prog 31 #[v, .int .i64 1] w fun e w' => e = .returned (.int .i64 ((1 : Int) + 3 * n)) ∧ Below base w w' ∧ w.grownBy w' v.ownBlock := by
  obtain ⟨a, cap, rfl, hv⟩ : ∃ a cap, v = .slice a n cap ∧ (0 < n → ∃ g, a = some ⟨g, 0, none⟩ ∧ base ≤ g) := by
    rcases hown.2 with ⟨rfl, rfl⟩ | ⟨g, cap, cur, rfl, hg, _⟩
    · exact ⟨_, _, rfl, fun h => absurd h (by omega)⟩
    · exact ⟨_, _, rfl, fun _ => ⟨g, rfl, hg⟩⟩
  have HV := Lib.hid hv
  clear hv
  go_enter Try.func31, Try.ntmps31
  go_wp2
  go_loopw [1, 5] (fun kv i wr => ∃ (j : Nat) (ys : List Value), j ≤ n ∧ i = .int .i64 j ∧ kv = .int .i64 ((1 : Int) + 3 * j) ∧ wr.ownsRow base 31 3 (.slice a n cap) n ys ∧ Below base w wr ∧ w.grownBy wr (Value.slice a n cap).ownBlock)
    (fun _ i _ => n - (intOf i).toNat)
  case atStart => exact ⟨0, xs, Nat.zero_le _, rfl, by go_num, hown, Below.refl _ _, tgrown_refl _ _⟩
  case round =>
    obtain ⟨j, ys, hj, rfl, rfl, hown', hb, hgr⟩ := hrel
    clear hown
    by_cases hlt : j < n
    · obtain ⟨g, rfl, hg⟩ := HV.out (by omega)
      have hsz := hb.size
      clear HV
      have CM := Lib.hid (fun w => markText_any (1 + 3 * j) w (by omega) (by omega))
      go_wp2_with (go_at_call 50; rw [show ((1 : Int) + 3 * (j : Int)) = ((1 + 3 * j : Nat) : Int) by omega]; refine (CM.out _).mono ?_; rintro e w1 ⟨rfl, hb1⟩; have hown1 := owns_below hown' hb1 (Nat.le_refl _); obtain ⟨⟨u0, e0⟩, ⟨u1, e1⟩, ⟨u2, e2⟩⟩ := owns_cells3 hown1 j hlt; have f0 := hown1.frozenAt (j * 3); have f1 := hown1.frozenAt (j * 3 + 1); have f2 := hown1.frozenAt (j * 3 + 2))
      go_roundw
      case rel =>
        have hb2 := hb.trans (hb1.mono (Nat.le_trans hbase hsz))
        have g1 := tgrown_trans hgr (tgrown_any (below_grown hb1 (Nat.le_refl _)) (some g))
        exact ⟨j + 1, _, by omega, by go_num, by go_num, owns_set3 hown1 j _ _ _, ((hb2.setCell hg _).setCell hg _).setCell hg _,
          tgrown_trans g1 (tgrown_trans (hown1.stored (j * 3) _).2 (tgrown_trans ((hown1.stored (j * 3) _).1.stored (j * 3 + 1) _).2 (((hown1.stored (j * 3) _).1.stored (j * 3 + 1) _).1.stored (j * 3 + 2) _).2))⟩
      case measure => simp [intOf]; omega
    · obtain rfl : j = n := by omega
      go_wp2
      go_ret
      exact ⟨rfl, hb, hgr⟩
end Go.Proofs.Ytmghnhjfkecaaaa
