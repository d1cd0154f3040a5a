/-
  Packed: Teams, Field, Clubs, BookOk, BookKit, BookVals, KeyValue, TeamsAll, SplitBy, RankFacts.
-/
import Derived.Test.YtmhkkdnopcdibaaQ1
import Derived.Test.YtmhkkdnopcdibaaQ3
import Derived.Test.YtmhkkdnopcdibaaQ4
import Derived.Test.YtmhkkdnopcdibaaQ5
set_option linter.unusedVariables false
namespace Go.Proofs.Ytmhkkdnopcdibaa
open Go.RowKit

structure TeamD where
  nm : ByteArray
  club : Int
  seed : Int
def TeamD.val (t : TeamD) : Value := .agg #[.string t.nm, .int .i64 t.club, .int .i64 t.seed]
def TeamD.cells (t : TeamD) : List Value := [.string t.nm, .int .i64 t.club, .int .i64 t.seed]
def TeamRow (w : World) (v : Value) (n : Nat) (g : Nat → TeamD) : Prop :=
  (∃ a cap, v = .slice a 0 cap ∧ n = 0) ∨ ∃ b off cap, v = .slice (some ⟨b, off, none⟩) n cap ∧ 0 < n ∧ n ≤ 9223372036854775807 ∧
    (∀ i, i < n → w.cell? ⟨b, off + i * 3, none⟩ = some (.string (g i).nm) ∧ w.cell? ⟨b, off + i * 3 + 1, none⟩ = some (.int .i64 (g i).club) ∧ w.cell? ⟨b, off + i * 3 + 2, none⟩ = some (.int .i64 (g i).seed)) ∧ n ≤ cap
theorem TeamRow.form {w : World} {v : Value} {n : Nat} {g : Nat → TeamD} (h : TeamRow w v n g) :
    ∃ a cap, v = .slice a n cap ∧ n ≤ 9223372036854775807 ∧ (0 < n → ∃ b off, a = some ⟨b, off, none⟩ ∧
      ∀ i, i < n → w.cell? ⟨b, off + i * 3, none⟩ = some (.string (g i).nm) ∧ w.cell? ⟨b, off + i * 3 + 1, none⟩ = some (.int .i64 (g i).club) ∧ w.cell? ⟨b, off + i * 3 + 2, none⟩ = some (.int .i64 (g i).seed)) := by
  rcases h with ⟨a, cap, rfl, rfl⟩ | ⟨b, off, cap, rfl, _, hn, hc, _⟩
  · exact ⟨_, _, rfl, by omega, fun h => absurd h (by omega)⟩
  · exact ⟨_, _, rfl, hn, fun _ => ⟨b, off, rfl, hc⟩⟩

def SzTeamPost (t : TeamD) (left : Int) (w : World) (e : Ending) (w' : World) : Prop :=
  (∃ r : Int, e = .returned (.int .i64 r) ∧ ((left < t.nm.size ∧ r < 0) ∨ (0 ≤ r ∧ t.nm.size + r = left))) ∧ Below w.heap.size w w'
theorem szTeam_any (t : TeamD) (left : Int) (w : World) (hs : t.nm.size ≤ 9223372036854775807) (hl0 : 0 ≤ left) (hl : left ≤ 1048576) :
    Calls Try.prog 55 #[.agg #[.string t.nm, .int .i64 t.club, .int .i64 t.seed], .int .i64 left] w (SzTeamPost t left w) := by
  obtain ⟨nm, club, seed⟩ := t
  simp only at hs ⊢
  by_cases hb : left < nm.size
  · have g0 : decide (left - (nm.size : Int) < 0) = true := decide_eq_true (by omega)
    go_enter Try.func55, Try.ntmps55
    go_wp2
    go_ret
    exact ⟨⟨_, rfl, .inl ⟨hb, by decide⟩⟩, (Below.refl _ _).alloc (Nat.le_refl _) _⟩
  · have g0 : decide (left - (nm.size : Int) < 0) = false := decide_eq_false (by omega)
    go_enter Try.func55, Try.ntmps55
    go_wp2
    go_ret
    exact ⟨⟨_, rfl, .inr ⟨by omega, by show (nm.size : Int) + _ = _; omega⟩⟩, (Below.refl _ _).alloc (Nat.le_refl _) _⟩

def totT (g : Nat → TeamD) : Nat → Nat
  | 0 => 0
  | k + 1 => totT g k + (g k).nm.size
def SzTeamsPost (g : Nat → TeamD) (n left : Nat) (w : World) (e : Ending) (w' : World) : Prop :=
  (∃ r : Int, e = .returned (.int .i64 r) ∧ (r < 0 ∨ (0 ≤ r ∧ n + totT g n + r = left))) ∧ Below w.heap.size w w'
theorem szTeamS_any (v : Value) (n left : Nat) (g : Nat → TeamD) (w : World) (h : TeamRow w v n g) (hg : ∀ i, (g i).nm.size ≤ 9223372036854775807) (hl : left ≤ 1048576) :
    Calls Try.prog 22 #[v, .int .i64 (left : Int)] w (SzTeamsPost g n left w) := by
  obtain ⟨a, cap, rfl, hn, hv⟩ := h.form
  have HV := Lib.hid hv
  have HG := Lib.hid hg
  clear hv hg h
  by_cases hbig : left < n
  · have g0 : decide ((left : Int) - (n : Int) < 0) = true := decide_eq_true (by omega)
    go_enter Try.func22, Try.ntmps22
    go_wp2
    go_ret
    exact ⟨⟨_, rfl, .inl (by decide)⟩, Below.refl _ _⟩
  have g0 : decide ((left : Int) - (n : Int) < 0) = false := decide_eq_false (by omega)
  go_enter Try.func22, Try.ntmps22
  go_wp2
  go_loopw [1, 5] (fun l i wr => ∃ (j T : Nat), j ≤ n ∧ i = .int .i64 j ∧ l = .int .i64 ((left : Int) - n - T) ∧ Hid (T = totT g j) ∧ n + T ≤ left ∧ Below w.heap.size w wr) (fun _ i _ => n - (RowKit.intOf i).toNat)
  case atStart => exact ⟨0, 0, Nat.zero_le _, rfl, by go_num, rfl, by omega, Below.refl _ _⟩
  case round =>
    obtain ⟨j, T, hj, rfl, rfl, hT, hTl, hb⟩ := hrel
    by_cases hlt : j < n
    · obtain ⟨b, off, rfl, hc⟩ := HV.out (by omega)
      obtain ⟨k0, k1, k2⟩ := hc j hlt
      have hblt : b < w.heap.size := World.block_lt_of_cell? w _ k0
      have c0 := (hb.cell (p := ⟨b, off + j * 3, none⟩) hblt).trans k0
      have c1 := (hb.cell (p := ⟨b, off + j * 3 + 1, none⟩) hblt).trans k1
      have c2 := (hb.cell (p := ⟨b, off + j * 3 + 2, none⟩) hblt).trans k2
      have hgj := HG.out j
      clear hc HV k0 k1 k2
      have hstep : Hid (T + (g j).nm.size = totT g (j + 1)) := by show _ = _; rw [hT.out]; rfl
      generalize g j = x at *
      go_wp2_with fail
      refine (szTeam_any x _ _ hgj (by omega) (by omega)).mono ?_
      rintro e w2 ⟨⟨r, rfl, hr⟩, b2⟩
      have hb2 := hb.trans (b2.mono hb.size)
      clear hb b2 c0 c1 c2
      rcases hr with ⟨_, hr⟩ | ⟨hr, hre⟩
      · have g1 : decide (r < 0) = true := decide_eq_true hr
        go_wp2
        go_ret
        exact ⟨⟨_, rfl, .inl (by decide)⟩, hb2⟩
      · have g1 : decide (r < 0) = false := decide_eq_false (by omega)
        obtain rfl : r = (left : Int) - n - (T + x.nm.size : Nat) := by omega
        clear hre
        go_wp2
        go_roundw
        case rel => exact ⟨j + 1, T + x.nm.size, by omega, by go_num, by go_num, hstep, by omega, hb2⟩
        case measure => simp [RowKit.intOf]; omega
    · obtain rfl : j = n := by omega
      go_wp2
      go_ret
      exact ⟨⟨_, rfl, .inr ⟨by omega, by rw [← hT.out]; omega⟩⟩, hb⟩

theorem toTeam_any (t : TeamD) (w : World) :
    Calls Try.prog 61 #[.agg #[.string t.nm, .int .i64 t.club, .int .i64 t.seed]] w fun e w' => e = .returned (.agg #[.string t.nm, .int .i64 t.club, .int .i64 t.seed]) ∧ Below w.heap.size w w' := by
  obtain ⟨nm, club, seed⟩ := t
  simp only
  go_enter Try.func61, Try.ntmps61
  go_wp2
  exact bodyPost_ret (v := .agg #[.string nm, .int .i64 club, .int .i64 seed]) (by simp [results, Try.results61, go_sem]) rfl ⟨rfl, (((Below.refl _ _).alloc (Nat.le_refl _) _).alloc (by simp) _).alloc (by simp; omega) _⟩

theorem eqTeam_same (t : TeamD) (w : World) :
    Calls Try.prog 63 #[.agg #[.string t.nm, .int .i64 t.club, .int .i64 t.seed], .agg #[.string t.nm, .int .i64 t.club, .int .i64 t.seed]] w fun e w' => e = .returned (.bool true) ∧ Below w.heap.size w w' := by
  obtain ⟨nm, club, seed⟩ := t
  simp only
  go_enter Try.func63, Try.ntmps63
  go_wp2
  go_ret
  exact ⟨rfl, ((Below.refl _ _).alloc (Nat.le_refl _) _).alloc (by simp) _⟩

theorem cells_below {w wr : World} {b off j : Nat} {t : TeamD} (hb : Below w.heap.size w wr) (h : w.cell? ⟨b, off + j * 3, none⟩ = some (.string t.nm) ∧ w.cell? ⟨b, off + j * 3 + 1, none⟩ = some (.int .i64 t.club) ∧ w.cell? ⟨b, off + j * 3 + 2, none⟩ = some (.int .i64 t.seed)) :
    wr.cell? ⟨b, off + j * 3, none⟩ = some (.string t.nm) ∧ wr.cell? ⟨b, off + j * 3 + 1, none⟩ = some (.int .i64 t.club) ∧ wr.cell? ⟨b, off + j * 3 + 2, none⟩ = some (.int .i64 t.seed) := by
  have hblt : b < w.heap.size := World.block_lt_of_cell? w _ h.1
  exact ⟨(hb.cell (p := ⟨b, off + j * 3, none⟩) hblt).trans h.1, (hb.cell (p := ⟨b, off + j * 3 + 1, none⟩) hblt).trans h.2.1, (hb.cell (p := ⟨b, off + j * 3 + 2, none⟩) hblt).trans h.2.2⟩

theorem eqTeamS_same (v1 v2 : Value) (n : Nat) (g : Nat → TeamD) (w : World) (h1 : TeamRow w v1 n g) (h2 : TeamRow w v2 n g) :
    Calls Try.prog 27 #[v1, v2] w fun e w' => e = .returned (.bool true) ∧ Below w.heap.size w w' := by
  obtain ⟨a, cap, rfl, hn, hv⟩ := h1.form
  obtain ⟨a', cap', rfl, _, hv'⟩ := h2.form
  have HV := Lib.hid hv
  have HV' := Lib.hid hv'
  clear hv hv' h1 h2
  go_enter Try.func27, Try.ntmps27
  go_wp2
  go_loopw [5] (fun i wr => ∃ k : Nat, k ≤ n ∧ i = .int .i64 k ∧ Below w.heap.size w wr) (fun i _ => n - (RowKit.intOf i).toNat)
  case atStart => exact ⟨0, Nat.zero_le _, rfl, Below.refl _ _⟩
  case round =>
    obtain ⟨k, hk, rfl, hb⟩ := hrel
    by_cases hlt : k < n
    · obtain ⟨b, off, rfl, hc⟩ := HV.out (by omega)
      obtain ⟨b', off', rfl, hc'⟩ := HV'.out (by omega)
      obtain ⟨c0, c1, c2⟩ := cells_below hb (hc k hlt)
      obtain ⟨d0, d1, d2⟩ := cells_below hb (hc' k hlt)
      have hblt : b < w.heap.size := World.block_lt_of_cell? w _ (hc k hlt).1
      have hblt' : b' < w.heap.size := World.block_lt_of_cell? w _ (hc' k hlt).1
      have HB := Lib.hid hb
      have hsz := hb.size
      clear hc hc' HV HV' hb
      generalize g k = x at *
      go_wp2
      go_region_held3 (fun w' => w'.cell? ⟨b, off + k * 3, none⟩ = some (.string x.nm) ∧ w'.cell? ⟨b, off + k * 3 + 1, none⟩ = some (.int .i64 x.club) ∧ w'.cell? ⟨b, off + k * 3 + 2, none⟩ = some (.int .i64 x.seed) ∧
          w'.cell? ⟨b', off' + k * 3, none⟩ = some (.string x.nm) ∧ w'.cell? ⟨b', off' + k * 3 + 1, none⟩ = some (.int .i64 x.club) ∧ w'.cell? ⟨b', off' + k * 3 + 2, none⟩ = some (.int .i64 x.seed) ∧ Hid (Below w.heap.size w w'))
        (first
          | exact ⟨c0, c1, c2, d0, d1, d2, HB.out.drew⟩
          | exact ⟨(Below.cell hb1 (p := ⟨b, off + k * 3, none⟩) (Nat.lt_of_lt_of_le hblt hsz)).trans c0, (Below.cell hb1 (p := ⟨b, off + k * 3 + 1, none⟩) (Nat.lt_of_lt_of_le hblt hsz)).trans c1, (Below.cell hb1 (p := ⟨b, off + k * 3 + 2, none⟩) (Nat.lt_of_lt_of_le hblt hsz)).trans c2,
              (Below.cell hb1 (p := ⟨b', off' + k * 3, none⟩) (Nat.lt_of_lt_of_le hblt' hsz)).trans d0, (Below.cell hb1 (p := ⟨b', off' + k * 3 + 1, none⟩) (Nat.lt_of_lt_of_le hblt' hsz)).trans d1, (Below.cell hb1 (p := ⟨b', off' + k * 3 + 2, none⟩) (Nat.lt_of_lt_of_le hblt' hsz)).trans d2,
              HB.out.drew.trans (hb1.mono hsz)⟩)
        (first | (go_at_call 63; refine (eqTeam_same x _).mono ?_; rintro e w1 ⟨rfl, hb1⟩))
      have HB1 : Hid (Below w.heap.size w w1) := by
        rename_i hh
        exact hh.2.2.2.2.2.2
      clear hb1 HB c0 c1 c2 d0 d1 d2
      go_wp2
      go_roundw
      case rel => exact ⟨k + 1, by omega, by go_num, HB1.out⟩
      case measure => simp [RowKit.intOf]; omega
    · go_wp2
      go_ret
      exact ⟨rfl, hb⟩

theorem Try.infoTeam : (Try.prog.info? 86).map (fun i => (i.zero, i.size, i.bytes)) = some (some (.agg #[.string ByteArray.empty, .int .i64 0, .int .i64 0]), 3, 32) := by kernel_rfl
def TeamsMade (w : World) (n : Nat) (g : Nat → TeamD) (e : Ending) (w' : World) : Prop :=
  ∃ v, e = .returned v ∧ TeamRow w' v n g ∧ (∃ xs, w'.ownsRow w.heap.size 86 3 v n xs) ∧ Below w.heap.size w w'
theorem TeamRow.of_owns {w : World} {base : Nat} {e : TypeId} {v : Value} {n : Nat} {xs : List Value} {g : Nat → TeamD} (h : w.ownsRow base e 3 v n xs) (hn : n ≤ 9223372036854775807)
    (hg : ∀ t, t < n → xs[t * 3]? = some (.string (g t).nm) ∧ xs[t * 3 + 1]? = some (.int .i64 (g t).club) ∧ xs[t * 3 + 2]? = some (.int .i64 (g t).seed)) : TeamRow w v n g := by
  by_cases h0 : n = 0
  · subst h0
    rcases h.2 with ⟨rfl, _⟩ | ⟨b, cap, cur, rfl, _⟩
    · exact .inl ⟨_, _, rfl, rfl⟩
    · exact .inl ⟨_, _, rfl, rfl⟩
  · rcases h.2 with ⟨_, hz⟩ | ⟨b, cap, cur, rfl, _, _, hcap, _⟩
    · exact absurd hz h0
    · refine .inr ⟨b, 0, cap, rfl, by omega, hn, fun i hi => ?_, hcap⟩
      obtain ⟨h1, h2, h3⟩ := hg i hi
      simp only [Nat.zero_add]
      exact ⟨by rw [h.cellAt _ (by omega)]; exact h1, by rw [h.cellAt _ (by omega)]; exact h2, by rw [h.cellAt _ (by omega)]; exact h3⟩
theorem toTeamS_any (v : Value) (n : Nat) (g : Nat → TeamD) (w : World) (h : TeamRow w v n g) (hn : n ≤ 1048576) :
    Calls Try.prog 25 #[v] w (TeamsMade w n g) := by
  obtain ⟨i0, hi, hz0, hz1, hz2⟩ := info_parts Try.infoTeam
  obtain ⟨a, cap, rfl, _, hv⟩ := h.form
  have HV := Lib.hid hv
  clear hv h
  go_enter Try.func25, Try.ntmps25
  go_wp2_with (at_make; refine wpList_make_full _ rfl _ _ 23 rfl w.heap.size 86 i0 (.agg #[.string ByteArray.empty, .int .i64 0, .int .i64 0]) 3 Try.underlying23 hi hz0 hz1 .i64 .i64 n n n rfl rfl rfl rfl (by rw [hz2]; omega) (by unfold maxLen; omega) (Nat.le_refl _) ?_; intro w1 hown hg1)
  have hb1 : Below w.heap.size w w1 := (Below.refl _ _).grown hg1 (Nat.le_refl _) (fun k hk => by cases hk)
  clear hg1
  go_loopw [4] (fun i wr => ∃ (j : Nat) (ys : List Value), j ≤ n ∧ i = .int .i64 j ∧ wr.ownsRow w.heap.size 86 3 (.slice (some ⟨w.heap.size, 0, none⟩) n n) n ys ∧
      Hid (∀ t, t < j → ys[t * 3]? = some (.string (g t).nm) ∧ ys[t * 3 + 1]? = some (.int .i64 (g t).club) ∧ ys[t * 3 + 2]? = some (.int .i64 (g t).seed)) ∧ Below w.heap.size w wr)
    (fun i _ => n - (RowKit.intOf i).toNat)
  case atStart => exact ⟨0, _, Nat.zero_le _, rfl, hown, fun t ht => absurd ht (by omega), hb1⟩
  case round =>
    obtain ⟨j, ys, hj, rfl, hown', hys, hb⟩ := hrel
    clear hown hb1
    by_cases hlt : j < n
    · obtain ⟨b, off, rfl, hc⟩ := HV.out (by omega)
      obtain ⟨c0, c1, c2⟩ := cells_below hb (hc j hlt)
      generalize hx : g j = x at *
      have Hx := Lib.hid hx
      have hlen := hown'.1
      have HL := Lib.hid hlen
      have hsz := hb.size
      clear hc HV hx hlen
      go_wp2_with (go_at_call 61; refine (toTeam_any x _).mono ?_; rintro e w2 ⟨rfl, b2⟩; have hown2 := owns_below hown' b2 (Nat.le_refl _); obtain ⟨⟨u0, e0⟩, ⟨u1, e1⟩, ⟨u2, e2⟩⟩ := owns_cells3 hown2 j hlt; have f0 := hown2.frozenAt (j * 3); have f1 := hown2.frozenAt (j * 3 + 1); have f2 := hown2.frozenAt (j * 3 + 2))
      go_roundw
      case rel =>
        have hb2 := (hb.trans (b2.mono hsz))
        refine ⟨j + 1, _, by omega, by go_num, owns_set3 hown2 j _ _ _, fun t ht => ?_, ((hb2.setCell (Nat.le_refl _) _).setCell (Nat.le_refl _) _).setCell (Nat.le_refl _) _⟩
        by_cases htj : t = j
        · subst htj
          rw [Hx.out]
          exact set3_at HL.out hlt _ _ _
        · obtain ⟨h1, h2, h3⟩ := hys.out t (by omega)
          exact ⟨(set3_other htj _ _ _ 0 (by omega)).trans h1, (set3_other htj _ _ _ 1 (by omega)).trans h2, (set3_other htj _ _ _ 2 (by omega)).trans h3⟩
      case measure => simp [RowKit.intOf]; omega
    · obtain rfl : j = n := by omega
      go_wp2
      go_ret
      exact ⟨_, rfl, TeamRow.of_owns hown' (by omega) hys.out, ⟨_, hown'⟩, hb⟩

theorem markTeamS_any (v : Value) (n k base : Nat) (xs : List Value) (w : World) (hown : w.ownsRow base 86 3 v n xs) (hbase : base ≤ w.heap.size) (h0 : 0 < k) (hk : k + 3 * n ≤ 1000000000000) :
    Calls Try.prog 34 #[v, .int .i64 (k : Int)] w fun e w' => e = .returned (.int .i64 ((k : Int) + 3 * n)) ∧ Below base w w' := by
  obtain ⟨a, cap, rfl, hv⟩ : ∃ a cap, v = .slice a n cap ∧ (0 < n → ∃ g, a = some ⟨g, 0, none⟩ ∧ base ≤ g) := by
    rcases hown.2 with ⟨rfl, rfl⟩ | ⟨g, cap, cur, rfl, hg, _⟩
    · exact ⟨_, _, rfl, fun h => absurd h (by omega)⟩
    · exact ⟨_, _, rfl, fun _ => ⟨g, rfl, hg⟩⟩
  have HV := Lib.hid hv
  clear hv
  go_enter Try.func34, Try.ntmps34
  go_wp2
  go_loopw [1, 5] (fun kv i wr => ∃ (j : Nat) (ys : List Value), j ≤ n ∧ i = .int .i64 j ∧ kv = .int .i64 ((k : Int) + 3 * j) ∧ wr.ownsRow base 86 3 (.slice a n cap) n ys ∧ Below base w wr)
    (fun _ i _ => n - (RowKit.intOf i).toNat)
  case atStart => exact ⟨0, xs, Nat.zero_le _, rfl, by go_num, hown, Below.refl _ _⟩
  case round =>
    obtain ⟨j, ys, hj, rfl, rfl, hown', hb⟩ := hrel
    clear hown
    by_cases hlt : j < n
    · obtain ⟨g, rfl, hg⟩ := HV.out (by omega)
      have hsz := hb.size
      clear HV
      have CM := Lib.hid (fun w => markText_any (k + 3 * j) w (by omega) (by omega))
      go_wp2_with (go_at_call 69; rw [show ((k : Int) + 3 * (j : Int)) = ((k + 3 * j : Nat) : Int) by omega]; refine (CM.out _).mono ?_; rintro e w1 ⟨rfl, hb1⟩; have hown1 := owns_below hown' hb1 (Nat.le_refl _); obtain ⟨⟨u0, e0⟩, ⟨u1, e1⟩, ⟨u2, e2⟩⟩ := owns_cells3 hown1 j hlt; have f0 := hown1.frozenAt (j * 3); have f1 := hown1.frozenAt (j * 3 + 1); have f2 := hown1.frozenAt (j * 3 + 2))
      go_roundw
      case rel =>
        have hb2 := hb.trans (hb1.mono (Nat.le_trans hbase hsz))
        exact ⟨j + 1, _, by omega, by go_num, by go_num, owns_set3 hown1 j _ _ _, ((hb2.setCell hg _).setCell hg _).setCell hg _⟩
      case measure => simp [RowKit.intOf]; omega
    · obtain rfl : j = n := by omega
      go_wp2
      go_ret
      exact ⟨rfl, hb⟩
theorem markTeamS_one (v : Value) (n base : Nat) (xs : List Value) (w : World) (hown : w.ownsRow base 86 3 v n xs) (hbase : base ≤ w.heap.size) (hk : n ≤ 1048576) :
    Calls Try.prog 34 #[v, .int .i64 1] w fun e w' => e = .returned (.int .i64 ((1 : Int) + 3 * n)) ∧ Below base w w' :=
  markTeamS_any v n 1 base xs w hown hbase (by omega) (by omega)
theorem tgrown_trans {a b c : World} {row : Option Nat} (h : a.grownBy b row) (k : b.grownBy c row) : a.grownBy c row :=
  ⟨k.os.trans h.os, k.tape.trans h.tape, k.output.trans h.output, Nat.le_trans h.size k.size, fun i hi hne => (k.block i (Nat.lt_of_lt_of_le hi h.size) hne).trans (h.block i hi hne)⟩
theorem tgrown_any {a b : World} (h : a.grownBy b none) (row : Option Nat) : a.grownBy b row := ⟨h.os, h.tape, h.output, h.size, fun i hi _ => h.block i hi (by simp)⟩
theorem tgrown_refl (a : World) (row : Option Nat) : a.grownBy a row := ⟨rfl, rfl, rfl, Nat.le_refl _, fun _ _ _ => rfl⟩
theorem markTeamS_grown (v : Value) (n base : Nat) (xs : List Value) (w : World) (hown : w.ownsRow base 86 3 v n xs) (hbase : base ≤ w.heap.size) (hk : n ≤ 1048576) :
    Calls Try.prog 34 #[v, .int .i64 1] w fun e w' => e = .returned (.int .i64 ((1 : Int) + 3 * n)) ∧ Below base w w' ∧ w.grownBy w' v.ownBlock := by
  obtain ⟨a, cap, rfl, hv⟩ : ∃ a cap, v = .slice a n cap ∧ (0 < n → ∃ g, a = some ⟨g, 0, none⟩ ∧ base ≤ g) := by
    rcases hown.2 with ⟨rfl, rfl⟩ | ⟨g, cap, cur, rfl, hg, _⟩
    · exact ⟨_, _, rfl, fun h => absurd h (by omega)⟩
    · exact ⟨_, _, rfl, fun _ => ⟨g, rfl, hg⟩⟩
  have HV := Lib.hid hv
  clear hv
  go_enter Try.func34, Try.ntmps34
  go_wp2
  go_loopw [1, 5] (fun kv i wr => ∃ (j : Nat) (ys : List Value), j ≤ n ∧ i = .int .i64 j ∧ kv = .int .i64 ((1 : Int) + 3 * j) ∧ wr.ownsRow base 86 3 (.slice a n cap) n ys ∧ Below base w wr ∧ w.grownBy wr (Value.slice a n cap).ownBlock)
    (fun _ i _ => n - (RowKit.intOf i).toNat)
  case atStart => exact ⟨0, xs, Nat.zero_le _, rfl, by go_num, hown, Below.refl _ _, tgrown_refl _ _⟩
  case round =>
    obtain ⟨j, ys, hj, rfl, rfl, hown', hb, hgr⟩ := hrel
    clear hown
    by_cases hlt : j < n
    · obtain ⟨g, rfl, hg⟩ := HV.out (by omega)
      have hsz := hb.size
      clear HV
      have CM := Lib.hid (fun w => markText_any (1 + 3 * j) w (by omega) (by omega))
      go_wp2_with (go_at_call 69; rw [show ((1 : Int) + 3 * (j : Int)) = ((1 + 3 * j : Nat) : Int) by omega]; refine (CM.out _).mono ?_; rintro e w1 ⟨rfl, hb1⟩; have hown1 := owns_below hown' hb1 (Nat.le_refl _); obtain ⟨⟨u0, e0⟩, ⟨u1, e1⟩, ⟨u2, e2⟩⟩ := owns_cells3 hown1 j hlt; have f0 := hown1.frozenAt (j * 3); have f1 := hown1.frozenAt (j * 3 + 1); have f2 := hown1.frozenAt (j * 3 + 2))
      go_roundw
      case rel =>
        have hb2 := hb.trans (hb1.mono (Nat.le_trans hbase hsz))
        have g1 := tgrown_trans hgr (tgrown_any (below_grown hb1 (Nat.le_refl _)) (some g))
        exact ⟨j + 1, _, by omega, by go_num, by go_num, owns_set3 hown1 j _ _ _, ((hb2.setCell hg _).setCell hg _).setCell hg _,
          tgrown_trans g1 (tgrown_trans (hown1.stored (j * 3) _).2 (tgrown_trans ((hown1.stored (j * 3) _).1.stored (j * 3 + 1) _).2 (((hown1.stored (j * 3) _).1.stored (j * 3 + 1) _).1.stored (j * 3 + 2) _).2))⟩
      case measure => simp [RowKit.intOf]; omega
    · obtain rfl : j = n := by omega
      go_wp2
      go_ret
      exact ⟨rfl, hb, hgr⟩
end Go.Proofs.Ytmhkkdnopcdibaa
set_option linter.unusedVariables false
namespace Go.Proofs.Ytmhkkdnopcdibaa
open Go.RowKit

theorem bytes_ne {x y : ByteArray} (h : x ≠ y) : (x.toList == y.toList) = false := by
  rw [beq_eq_false_iff_ne, ne_eq, ByteArray.toList_eq, ByteArray.toList_eq]
  exact fun e => h (ByteArray.ext (Array.toList_inj.mp e))
def teamP (t : TeamD) : Prop := nameB t.nm = true ∧ (0 ≤ t.club ∧ t.club ≤ 5) ∧ (1 ≤ t.seed ∧ t.seed ≤ 8)
theorem teamOk_yes (t : TeamD) (w : World) (hs : t.nm.size ≤ maxLen) (hp : teamP t) :
    Calls Try.prog 89 #[.agg #[.string t.nm, .int .i64 t.club, .int .i64 t.seed]] w fun e w' => e = .returned (.bool true) ∧ Below w.heap.size w w' := by
  obtain ⟨nm, club, seed⟩ := t
  obtain ⟨h1, h2, h3⟩ := hp
  simp only at h1 h2 h3 hs ⊢
  have H1 := Lib.hid h1
  clear h1
  go_enter Try.func89, Try.ntmps89
  go_wp2_with (first
    | (go_at_call 98; refine (isName_spec _ _ hs).mono ?_; rintro e w' ⟨rfl, rfl⟩; rw [H1.out])
    | (go_at_call 58; refine (l01In_yes _ _ _ _ (by omega)).mono ?_; rintro e w' ⟨rfl, rfl⟩))
  go_ret
  exact ⟨rfl, (Below.refl _ _).alloc (Nat.le_refl _) _⟩
theorem teamOk_no (t : TeamD) (w : World) (hs : t.nm.size ≤ maxLen) (hp : ¬ teamP t) :
    Calls Try.prog 89 #[.agg #[.string t.nm, .int .i64 t.club, .int .i64 t.seed]] w fun e w' => e = .returned (.bool false) ∧ Below w.heap.size w w' := by
  obtain ⟨nm, club, seed⟩ := t
  unfold teamP at hp
  simp only at hp hs ⊢
  by_cases h1 : nameB nm = true
  · have H1 := Lib.hid h1
    by_cases h2 : 0 ≤ club ∧ club ≤ 5
    · have h3 : ¬ (1 ≤ seed ∧ seed ≤ 8) := fun h3 => hp ⟨h1, h2, h3⟩
      clear h1 hp
      go_enter Try.func89, Try.ntmps89
      go_wp2_with (first
        | (go_at_call 98; refine (isName_spec _ _ hs).mono ?_; rintro e w' ⟨rfl, rfl⟩; rw [H1.out])
        | (go_at_call 58; refine (l01In_yes _ _ _ _ (by omega)).mono ?_; rintro e w' ⟨rfl, rfl⟩)
        | (go_at_call 58; refine (l01In_no _ _ _ _ (by omega)).mono ?_; rintro e w' ⟨rfl, rfl⟩))
      go_ret
      exact ⟨rfl, (Below.refl _ _).alloc (Nat.le_refl _) _⟩
    · clear h1 hp
      go_enter Try.func89, Try.ntmps89
      go_wp2_with (first
        | (go_at_call 98; refine (isName_spec _ _ hs).mono ?_; rintro e w' ⟨rfl, rfl⟩; rw [H1.out])
        | (go_at_call 58; refine (l01In_no _ _ _ _ (by omega)).mono ?_; rintro e w' ⟨rfl, rfl⟩))
      go_ret
      exact ⟨rfl, (Below.refl _ _).alloc (Nat.le_refl _) _⟩
  · have h1' : nameB nm = false := by simpa using h1
    have H1 := Lib.hid h1'
    clear h1 h1' hp
    go_enter Try.func89, Try.ntmps89
    go_wp2_with (go_at_call 98; refine (isName_spec _ _ hs).mono ?_; rintro e w' ⟨rfl, rfl⟩; rw [H1.out])
    go_ret
    exact ⟨rfl, (Below.refl _ _).alloc (Nat.le_refl _) _⟩

def namedI (g : Nat → TeamD) (x : ByteArray) : Nat → Nat → Int
  | 0, _ => -1
  | r + 1, k => if (g k).nm = x then (k : Int) else namedI g x r (k + 1)
theorem var3 {w w2 : World} {t : TypeId} {a b c : Value} (h : Below (w.alloc (.cells #[a, b, c] t)).heap.size (w.alloc (.cells #[a, b, c] t)) w2) :
    w2.cell? ⟨w.heap.size, 0, none⟩ = some a ∧ w2.cell? ⟨w.heap.size, 1, none⟩ = some b ∧ w2.cell? ⟨w.heap.size, 2, none⟩ = some c := by
  have key : ∀ (j : Nat) (u : Value), #[a, b, c][j]? = some u → w2.cell? ⟨w.heap.size, j, none⟩ = some u := by
    intro j u hu
    have h0 : (w.alloc (.cells #[a, b, c] t)).cell? ⟨w.heap.size, j, none⟩ = some u := by
      rw [cell_of_row _ w.heap.size j #[a, b, c] t (0, 0) (heap_alloc_new w _)]
      exact hu
    exact (h.cell (p := ⟨w.heap.size, j, none⟩) (World.block_lt_of_cell? _ _ h0)).trans h0
  exact ⟨key 0 a rfl, key 1 b rfl, key 2 c rfl⟩
theorem var3_below {w w2 : World} {B : Nat} {a b c : Value} (k0 : w.cell? ⟨B, 0, none⟩ = some a) (k1 : w.cell? ⟨B, 1, none⟩ = some b) (k2 : w.cell? ⟨B, 2, none⟩ = some c) (h : Below w.heap.size w w2) :
    w2.cell? ⟨B, 0, none⟩ = some a ∧ w2.cell? ⟨B, 1, none⟩ = some b ∧ w2.cell? ⟨B, 2, none⟩ = some c := by
  have hlt : B < w.heap.size := World.block_lt_of_cell? w _ k0
  exact ⟨(h.cell (p := ⟨B, 0, none⟩) hlt).trans k0, (h.cell (p := ⟨B, 1, none⟩) hlt).trans k1, (h.cell (p := ⟨B, 2, none⟩) hlt).trans k2⟩
theorem TeamRow.take {w : World} {b off cap n : Nat} {g : Nat → TeamD} (k : Nat) (hk : k ≤ n) (hn : n ≤ 9223372036854775807) (hcap : n ≤ cap)
    (h : ∀ i, i < n → w.cell? ⟨b, off + i * 3, none⟩ = some (.string (g i).nm) ∧ w.cell? ⟨b, off + i * 3 + 1, none⟩ = some (.int .i64 (g i).club) ∧ w.cell? ⟨b, off + i * 3 + 2, none⟩ = some (.int .i64 (g i).seed)) :
    TeamRow w (.slice (some ⟨b, off, none⟩) k cap) k g := by
  by_cases h0 : k = 0
  · subst h0; exact .inl ⟨_, _, rfl, rfl⟩
  · exact .inr ⟨b, off, cap, rfl, by omega, by omega, fun i hi => h i (by omega), by omega⟩
theorem TeamRow.form' {w : World} {v : Value} {n : Nat} {g : Nat → TeamD} (h : TeamRow w v n g) :
    ∃ a cap, v = .slice a n cap ∧ n ≤ 9223372036854775807 ∧ (0 < n → ∃ b off, a = some ⟨b, off, none⟩ ∧ n ≤ cap ∧
      ∀ i, i < n → w.cell? ⟨b, off + i * 3, none⟩ = some (.string (g i).nm) ∧ w.cell? ⟨b, off + i * 3 + 1, none⟩ = some (.int .i64 (g i).club) ∧ w.cell? ⟨b, off + i * 3 + 2, none⟩ = some (.int .i64 (g i).seed)) := by
  rcases h with ⟨a, cap, rfl, rfl⟩ | ⟨b, off, cap, rfl, _, hn, hc, hcap⟩
  · exact ⟨_, _, rfl, by omega, fun h => absurd h (by omega)⟩
  · exact ⟨_, _, rfl, hn, fun _ => ⟨b, off, rfl, hcap, hc⟩⟩

def freshP (g : Nat → TeamD) (i : Nat) : Prop := teamP (g i) ∧ ∀ j, j < i → (g j).nm ≠ (g i).nm ∧ (g j).seed ≠ (g i).seed
def fieldP (n : Nat) (g : Nat → TeamD) : Prop := (2 ≤ n ∧ n ≤ 8) ∧ ∀ i, i < n → freshP g i
theorem fieldOk_yes (v : Value) (n : Nat) (g : Nat → TeamD) (w : World) (h : TeamRow w v n g) (hg : ∀ i, (g i).nm.size ≤ maxLen) (hp : fieldP n g) :
    Calls Try.prog 57 #[v] w fun e w' => e = .returned (.bool true) ∧ Below w.heap.size w w' := by
  obtain ⟨hn8, hall⟩ := hp
  obtain ⟨a, cap, rfl, hn, hv⟩ := h.form'
  have HV := Lib.hid hv
  have HA := Lib.hid hall
  have HG := Lib.hid hg
  clear hv h hall hg
  go_enter Try.func57, Try.ntmps57
  go_wp2_with (go_at_call 58; refine (l01In_yes _ _ _ _ (by omega)).mono ?_; rintro e w' ⟨rfl, rfl⟩)
  go_loopw [13] (fun i wr => ∃ k : Nat, k ≤ n ∧ i = .int .i64 k ∧ Below w.heap.size w wr) (fun i _ => n - (RowKit.intOf i).toNat)
  case atStart => exact ⟨0, Nat.zero_le _, rfl, Below.refl _ _⟩
  case round =>
    obtain ⟨k, hk, rfl, hb⟩ := hrel
    by_cases hlt : k < n
    · obtain ⟨b, off, rfl, hcap, hc⟩ := HV.out (by omega)
      obtain ⟨c0, c1, c2⟩ := cells_below hb (hc k hlt)
      obtain ⟨hx, hno⟩ := HA.out k hlt
      have HC : Hid (∀ i, i < k → (w.cell? ⟨b, off + i * 3, none⟩ = some (.string (g i).nm) ∧ w.cell? ⟨b, off + i * 3 + 1, none⟩ = some (.int .i64 (g i).club) ∧ w.cell? ⟨b, off + i * 3 + 2, none⟩ = some (.int .i64 (g i).seed))) := fun i hi => hc i (by omega)
      have HNO := Lib.hid hno
      have HX := Lib.hid hx
      have hgk := HG.out k
      have hk9 : (k : Int) ≤ cap := by omega
      clear hc HV HA hno hx HG
      generalize hy : g k = x at c0 c1 c2 HNO HX hgk
      clear hy
      go_wp2_with (go_at_call 89; refine (teamOk_yes x _ hgk HX.out).mono ?_; rintro e w2 ⟨rfl, b2⟩; have K := Lib.hid (var3 b2); have hb2 : Below w.heap.size w w2 := (hb.alloc hb.size _).trans (b2.mono (Nat.le_trans hb.size (by simp))))
      have HB2 := Lib.hid hb2
      clear b2 hb hb2 c0 c1 c2
      generalize wr.heap.size = B at *
      go_loopw [25] (fun i wi => ∃ j : Nat, j ≤ k ∧ i = .int .i64 j ∧ Below w2.heap.size w2 wi) (fun i _ => k - (RowKit.intOf i).toNat)
      case atStart => exact ⟨0, Nat.zero_le _, rfl, Below.refl _ _⟩
      case round =>
        obtain ⟨j, hj, rfl, hbi⟩ := hrel
        obtain ⟨v0, v1, v2⟩ := K.out
        have hvb := World.block_lt_of_cell? w2 _ v0
        have v0 := (hbi.cell (p := ⟨B, 0, none⟩) hvb).trans v0
        have v2 := (hbi.cell (p := ⟨B, 2, none⟩) hvb).trans v2
        clear K v1
        by_cases hj' : j < k
        · have hbo : Below w.heap.size w wr := HB2.out.trans (hbi.mono HB2.out.size)
          obtain ⟨c0, c1, c2⟩ := cells_below hbo (HC.out j hj')
          obtain ⟨hn1, hn2⟩ := HNO.out j hj'
          have g1 : ((g j).nm.toList == x.nm.toList) = false := bytes_ne hn1
          have g2 : ((g j).seed == x.seed) = false := by simpa using hn2
          clear hn1 hn2 HC HNO hbo
          generalize g j = y at c0 c1 c2 g1 g2
          have hwb := World.block_lt_of_cell? wr _ v0
          have V0 : (wr.alloc (.cells #[.string y.nm, .int .i64 y.club, .int .i64 y.seed] 86)).cell? ⟨B, 0, none⟩ = some (.string x.nm) :=
            (((Below.refl wr.heap.size wr).alloc (Nat.le_refl _) _).cell (p := ⟨B, 0, none⟩) hwb).trans v0
          have V2 : (wr.alloc (.cells #[.string y.nm, .int .i64 y.club, .int .i64 y.seed] 86)).cell? ⟨B, 2, none⟩ = some (.int .i64 x.seed) :=
            (((Below.refl wr.heap.size wr).alloc (Nat.le_refl _) _).cell (p := ⟨B, 2, none⟩) hwb).trans v2
          clear v0 v2
          go_wp2
          go_roundw
          case rel => exact ⟨j + 1, by omega, by go_num, hbi.alloc hbi.size _⟩
          case measure => simp [RowKit.intOf]; omega
        · go_wp2
          go_roundw
          case rel => exact ⟨k + 1, by omega, by go_num, HB2.out.trans (hbi.mono HB2.out.size)⟩
          case measure => simp [RowKit.intOf]; omega
    · go_wp2
      go_ret
      exact ⟨rfl, hb⟩
theorem fieldOk_no (v : Value) (n : Nat) (g : Nat → TeamD) (w : World) (h : TeamRow w v n g) (hg : ∀ i, (g i).nm.size ≤ maxLen) (hp : ¬ fieldP n g) :
    Calls Try.prog 57 #[v] w fun e w' => e = .returned (.bool false) ∧ Below w.heap.size w w' := by
  obtain ⟨a, cap, rfl, hn, hv⟩ := h.form'
  have HV := Lib.hid hv
  have HG := Lib.hid hg
  clear hv h hg
  by_cases hn8 : ¬ ((2 : Int) ≤ n ∧ (n : Int) ≤ 8)
  · clear hp HV HG
    go_enter Try.func57, Try.ntmps57
    go_wp2_with (go_at_call 58; refine (l01In_no _ _ _ _ (by omega)).mono ?_; rintro e w' ⟨rfl, rfl⟩)
    go_ret
    exact ⟨rfl, Below.refl _ _⟩
  replace hn8 := Decidable.not_not.1 hn8
  have HA : Hid (¬ ∀ i, i < n → freshP g i) := fun h => hp ⟨by omega, h⟩
  clear hp
  go_enter Try.func57, Try.ntmps57
  go_wp2_with (go_at_call 58; refine (l01In_yes _ _ _ _ (by omega)).mono ?_; rintro e w' ⟨rfl, rfl⟩)
  go_loopw [13] (fun i wr => ∃ k : Nat, k ≤ n ∧ i = .int .i64 k ∧ Hid (∀ i, i < k → freshP g i) ∧ Below w.heap.size w wr) (fun i _ => n - (RowKit.intOf i).toNat)
  case atStart => exact ⟨0, Nat.zero_le _, rfl, fun i hi => absurd hi (by omega), Below.refl _ _⟩
  case round =>
    obtain ⟨k, hk, rfl, hf, hb⟩ := hrel
    by_cases hlt : k < n
    · obtain ⟨b, off, rfl, hcap, hc⟩ := HV.out (by omega)
      obtain ⟨c0, c1, c2⟩ := cells_below hb (hc k hlt)
      have HC : Hid (∀ i, i < k → (w.cell? ⟨b, off + i * 3, none⟩ = some (.string (g i).nm) ∧ w.cell? ⟨b, off + i * 3 + 1, none⟩ = some (.int .i64 (g i).club) ∧ w.cell? ⟨b, off + i * 3 + 2, none⟩ = some (.int .i64 (g i).seed))) := fun i hi => hc i (by omega)
      have HS : Hid (freshP g k → ∀ i, i < k + 1 → freshP g i) := fun h i hi => by
        by_cases hik : i = k
        · subst hik; exact h
        · exact hf.out i (by omega)
      have hgk := HG.out k
      have hk9 : (k : Int) ≤ cap := by omega
      clear hc HV HA HG hf
      by_cases hx : ¬ teamP (g k)
      · have HX := Lib.hid hx
        clear hx HC HS
        generalize g k = x at *
        go_wp2_with (go_at_call 89; refine (teamOk_no x _ hgk HX.out).mono ?_; rintro e w2 ⟨rfl, b2⟩; have hb2 : Below w.heap.size w w2 := (hb.alloc hb.size _).trans (b2.mono (Nat.le_trans hb.size (by simp))))
        go_ret
        exact ⟨rfl, hb2⟩
      replace hx := Classical.not_not.1 hx
      have HX := Lib.hid hx
      have HF : Hid ((∀ j, j < k → (g j).nm ≠ (g k).nm ∧ (g j).seed ≠ (g k).seed) → ∀ i, i < k + 1 → freshP g i) := fun h => HS.out ⟨HX.out, h⟩
      clear hx HS
      have HY : Hid (g k = g k) := rfl
      generalize hy : g k = x at c0 c1 c2 HX hgk
      have HE := Lib.hid hy
      clear hy HY
      go_wp2_with (go_at_call 89; refine (teamOk_yes x _ hgk HX.out).mono ?_; rintro e w2 ⟨rfl, b2⟩; have K := Lib.hid (var3 b2); have hb2 : Below w.heap.size w w2 := (hb.alloc hb.size _).trans (b2.mono (Nat.le_trans hb.size (by simp))))
      have HB2 := Lib.hid hb2
      clear b2 hb hb2 c0 c1 c2
      generalize wr.heap.size = B at *
      go_loopw [25] (fun i wi => ∃ j : Nat, j ≤ k ∧ i = .int .i64 j ∧ Hid (∀ t, t < j → (g t).nm ≠ x.nm ∧ (g t).seed ≠ x.seed) ∧ Below w2.heap.size w2 wi) (fun i _ => k - (RowKit.intOf i).toNat)
      case atStart => exact ⟨0, Nat.zero_le _, rfl, fun i hi => absurd hi (by omega), Below.refl _ _⟩
      case round =>
        obtain ⟨j, hj, rfl, hfi, hbi⟩ := hrel
        obtain ⟨v0, v1, v2⟩ := K.out
        have hvb := World.block_lt_of_cell? w2 _ v0
        have v0 := (hbi.cell (p := ⟨B, 0, none⟩) hvb).trans v0
        have v2 := (hbi.cell (p := ⟨B, 2, none⟩) hvb).trans v2
        clear K v1
        have HBO := Lib.hid (HB2.out.trans (hbi.mono HB2.out.size))
        by_cases hj' : j < k
        · obtain ⟨c0, c1, c2⟩ := cells_below HBO.out (HC.out j hj')
          have HN : Hid ((g j).nm ≠ x.nm → (g j).seed ≠ x.seed → ∀ t, t < j + 1 → (g t).nm ≠ x.nm ∧ (g t).seed ≠ x.seed) := fun h1 h2 t ht => by
            by_cases htj : t = j
            · subst htj; exact ⟨h1, h2⟩
            · exact hfi.out t (by omega)
          have hwb := World.block_lt_of_cell? wr _ v0
          have V0 : ∀ y : TeamD, Hid ((wr.alloc (.cells #[.string y.nm, .int .i64 y.club, .int .i64 y.seed] 86)).cell? ⟨B, 0, none⟩ = some (.string x.nm)) := fun y =>
            (((Below.refl wr.heap.size wr).alloc (Nat.le_refl _) _).cell (p := ⟨B, 0, none⟩) hwb).trans v0
          have V2 : ∀ y : TeamD, Hid ((wr.alloc (.cells #[.string y.nm, .int .i64 y.club, .int .i64 y.seed] 86)).cell? ⟨B, 2, none⟩ = some (.int .i64 x.seed)) := fun y =>
            (((Below.refl wr.heap.size wr).alloc (Nat.le_refl _) _).cell (p := ⟨B, 2, none⟩) hwb).trans v2
          have V0 := (V0 (g j)).out
          have V2 := (V2 (g j)).out
          clear v0 v2 HC HF HE hfi
          by_cases h1 : (g j).nm = x.nm
          · rw [h1] at c0
            clear HN
            generalize g j = y at *
            rw [h1] at V0 V2
            clear h1
            go_wp2
            go_ret
            exact ⟨rfl, HBO.out.alloc HBO.out.size _⟩
          · have g1 : ((g j).nm.toList == x.nm.toList) = false := bytes_ne h1
            by_cases h2 : (g j).seed = x.seed
            · clear HN h1
              generalize g j = y at *
              have g2 : (y.seed == x.seed) = true := by simpa using h2
              clear h2
              go_wp2
              go_ret
              exact ⟨rfl, HBO.out.alloc HBO.out.size _⟩
            · have g2 : ((g j).seed == x.seed) = false := by simpa using h2
              have HN2 := Lib.hid (HN.out h1 h2)
              clear h1 h2 HN
              generalize g j = y at c0 c1 c2 g1 g2 V0 V2
              go_wp2
              go_roundw
              case rel => exact ⟨j + 1, by omega, by go_num, HN2.out, hbi.alloc hbi.size _⟩
              case measure => simp [RowKit.intOf]; omega
        · obtain rfl : j = k := by omega
          have HF2 : Hid (∀ i, i < j + 1 → freshP g i) := HF.out (by rw [HE.out]; exact hfi.out)
          clear HF hfi HE v0 v2
          go_wp2
          go_roundw
          case rel => exact ⟨j + 1, by omega, by go_num, HF2.out, HBO.out⟩
          case measure => simp [RowKit.intOf]; omega
    · obtain rfl : k = n := by omega
      exact absurd hf.out HA.out
end Go.Proofs.Ytmhkkdnopcdibaa
set_option linter.unusedVariables false
namespace Go.Proofs.Ytmhkkdnopcdibaa
open Go.RowKit

def NumsMade (w : World) (L : List Int) (e : Ending) (w' : World) : Prop :=
  ∃ v, e = .returned v ∧ w'.ownsRow w.heap.size 3 1 v L.length (L.map (Value.int .i64)) ∧ Below w.heap.size w w'
def selL (f : Nat → Int) (c : Int) : Nat → List Int
  | 0 => []
  | k + 1 => selL f c k ++ if f k = c then [(k : Int)] else []
theorem selL_yes {f : Nat → Int} {c : Int} {k : Nat} (h : f k = c) : selL f c (k + 1) = selL f c k ++ [(k : Int)] := by simp [selL, h]
theorem selL_no {f : Nat → Int} {c : Int} {k : Nat} (h : f k ≠ c) : selL f c (k + 1) = selL f c k := by simp [selL, h]
theorem selL_len (f : Nat → Int) (c : Int) : ∀ k, (selL f c k).length ≤ k
  | 0 => Nat.le_refl _
  | k + 1 => by
    have := selL_len f c k
    by_cases h : f k = c
    · rw [selL_yes h]; simp; omega
    · rw [selL_no h]; omega

def seedsL (f : Nat → Int) (n : Nat) : Nat → List Int
  | 0 => []
  | s + 1 => seedsL f n s ++ selL f ((s : Int) + 1) n
def clubsN (g : Nat → TeamD) (n : Nat) : Nat → Nat
  | 0 => 0
  | c + 1 => clubsN g n c + if 0 < (selL (fun i => (g i).club) (c : Int) n).length then 1 else 0
theorem clubsN_le (g : Nat → TeamD) (n : Nat) : ∀ c, clubsN g n c ≤ c
  | 0 => Nat.le_refl _
  | c + 1 => by
    have := clubsN_le g n c
    unfold clubsN
    split <;> omega
theorem TeamRow.below {w w' : World} {B : Nat} {v : Value} {n : Nat} {g : Nat → TeamD} (h : TeamRow w v n g) (hb : Below B w w') (hB : w.heap.size ≤ B) : TeamRow w' v n g := by
  rcases h with h | ⟨b, off, cap, h1, h0, h2, h3, h4⟩
  · exact .inl h
  · refine .inr ⟨b, off, cap, h1, h0, h2, fun i hi => ?_, h4⟩
    obtain ⟨k0, k1, k2⟩ := h3 i hi
    have hlt := Nat.lt_of_lt_of_le (World.block_lt_of_cell? w _ k0) hB
    exact ⟨(hb.cell (p := ⟨b, off + i * 3, none⟩) hlt).trans k0, (hb.cell (p := ⟨b, off + i * 3 + 1, none⟩) hlt).trans k1, (hb.cell (p := ⟨b, off + i * 3 + 2, none⟩) hlt).trans k2⟩
theorem TeamRow.drewN {w : World} {v : Value} {n q : Nat} {g : Nat → TeamD} (h : TeamRow w v n g) : TeamRow (w.drewN q) v n g := by
  rcases h with h | ⟨b, off, cap, h1, h0, h2, h3, h4⟩
  · exact .inl h
  · exact .inr ⟨b, off, cap, h1, h0, h2, fun i hi => by simp only [World.cell?_drewN]; exact h3 i hi, h4⟩
theorem NumsMade.form {w w' : World} {L : List Int} {e : Ending} (h : NumsMade w L e w') :
    ∃ a cap, e = .returned (.slice a L.length cap) ∧ w'.ownsRow w.heap.size 3 1 (.slice a L.length cap) L.length (L.map (Value.int .i64)) ∧ Below w.heap.size w w' := by
  obtain ⟨v, rfl, hown, hb⟩ := h
  rcases hown.2 with ⟨rfl, h0⟩ | ⟨g, cap, cur, rfl, _⟩
  · cases L with
    | nil => exact ⟨_, _, rfl, hown, hb⟩
    | cons => simp at h0
  · exact ⟨_, _, rfl, hown, hb⟩
theorem seedsL_len (f : Nat → Int) (n : Nat) : ∀ s, (seedsL f n s).length ≤ s * n
  | 0 => by simp [seedsL]
  | s + 1 => by
    have h1 := seedsL_len f n s
    have h2 := selL_len f ((s : Int) + 1) n
    unfold seedsL
    rw [List.length_append, Nat.succ_mul]
    omega
end Go.Proofs.Ytmhkkdnopcdibaa
set_option linter.unusedVariables false
namespace Go.Proofs.Ytmhkkdnopcdibaa
open Go.RowKit

structure BookD where
  nf : Nat
  f : Nat → TeamD
  win : Int
  draw : Int
  loss : Int
  nl : Nat
  l : Nat → Int
  again : Bool
  m : Nat
  g : Nat → GameD
  nfa : Nat
  fa : Nat → Int
  nta : Nat
  ta : Nat → Int
def BookRow (w : World) (vf vl vg vfa vta : Value) (b : BookD) : Prop :=
  TeamRow w vf b.nf b.f ∧ IntRow w vl b.nl b.l ∧ GameRow w vg b.m b.g ∧ IntRow w vfa b.nfa b.fa ∧ IntRow w vta b.nta b.ta
theorem BookRow.below {w w' : World} {B : Nat} {vf vl vg vfa vta : Value} {b : BookD} (h : BookRow w vf vl vg vfa vta b) (hb : Below B w w') (hB : w.heap.size ≤ B) : BookRow w' vf vl vg vfa vta b :=
  ⟨h.1.below hb hB, h.2.1.below hb hB, h.2.2.1.below hb hB, h.2.2.2.1.below hb hB, h.2.2.2.2.below hb hB⟩
theorem BookRow.form {w : World} {vf vl vg vfa vta : Value} {b : BookD} (h : BookRow w vf vl vg vfa vta b) :
    ∃ fa fc la lc ga gc qa qc ta tc, vf = .slice fa b.nf fc ∧ vl = .slice la b.nl lc ∧ vg = .slice ga b.m gc ∧ vfa = .slice qa b.nfa qc ∧ vta = .slice ta b.nta tc := by
  obtain ⟨fa, fc, h1, _⟩ := h.1.form
  obtain ⟨la, lc, h2, _⟩ := h.2.1.form
  obtain ⟨ga, gc, h3, _⟩ := h.2.2.1.form
  obtain ⟨qa, qc, h4, _⟩ := h.2.2.2.1.form
  obtain ⟨ta, tc, h5, _⟩ := h.2.2.2.2.form
  exact ⟨fa, fc, la, lc, ga, gc, qa, qc, ta, tc, h1, h2, h3, h4, h5⟩
def pensP (b : BookD) (i : Nat) : Prop := (0 ≤ b.fa i ∧ b.fa i ≤ 1000) ∧ (0 ≤ b.ta i ∧ b.ta i ≤ 1000)
def bookP (b : BookD) : Prop := fieldP b.nf b.f ∧ rulesP b.win b.draw b.loss b.nl b.l ∧ seasonP b.nf b.m b.g ∧ b.nfa = b.nf ∧ b.nta = b.nf ∧ ∀ i, i < b.nf → pensP b i
theorem fieldOk_spec (v : Value) (n : Nat) (g : Nat → TeamD) (R : Bool) (w : World) (h : TeamRow w v n g) (hg : ∀ i, (g i).nm.size ≤ maxLen) (hR : R = true ↔ fieldP n g) :
    Calls Try.prog 57 #[v] w fun e w' => e = .returned (.bool R) ∧ Below w.heap.size w w' := by
  cases R with
  | true => exact (fieldOk_yes v n g w h hg (hR.1 rfl)).mono fun e w' h => ⟨h.1, by first | exact h.2 | (obtain ⟨q, rfl⟩ := h.2; exact below_drewN (Below.refl _ _) q) | (rw [← h.2]; exact Below.refl _ _)⟩
  | false => exact (fieldOk_no v n g w h hg fun hp => by have := hR.2 hp; cases this).mono fun e w' h => ⟨h.1, by first | exact h.2 | (obtain ⟨q, rfl⟩ := h.2; exact below_drewN (Below.refl _ _) q) | (rw [← h.2]; exact Below.refl _ _)⟩

theorem int_at {w : World} {a : Option Addr} {n c k : Nat} {g : Nat → Int} (h : IntRow w (.slice a n c) n g) (hk : k < n) : ∃ bo off, a = some ⟨bo, off, none⟩ ∧ n ≤ c ∧ w.cell? ⟨bo, off + k, none⟩ = some (.int .i64 (g k)) := by
  rcases h with ⟨_, _, _, h1⟩ | ⟨b', off, c', he, _, h3, hc, _⟩
  · omega
  · simp only [Value.slice.injEq, true_and] at he
    obtain ⟨rfl, rfl⟩ := he
    exact ⟨b', off, rfl, by omega, hc k hk⟩

end Go.Proofs.Ytmhkkdnopcdibaa
set_option linter.unusedVariables false
namespace Go.Proofs.Ytmhkkdnopcdibaa
open Go.RowKit

abbrev bkList (fa : Option Addr) (fc : Nat) (la : Option Addr) (lc : Nat) (ga : Option Addr) (gc : Nat) (qa : Option Addr) (qc : Nat) (ta : Option Addr) (tc : Nat) (b : BookD) : List Value :=
  [.slice fa b.nf fc, .int .i64 b.win, .int .i64 b.draw, .int .i64 b.loss, .slice la b.nl lc, .bool b.again, .slice ga b.m gc, .slice qa b.nfa qc, .slice ta b.nta tc]
structure BkAt (w0 w : World) (B : Nat) (fa : Option Addr) (fc : Nat) (la : Option Addr) (lc : Nat) (ga : Option Addr) (gc : Nat) (qa : Option Addr) (qc : Nat) (ta : Option Addr) (tc : Nat) (b : BookD) : Prop where
  box : BoxN w B (bkList fa fc la lc ga gc qa qc ta tc b)
  row0 : BookRow w0 (.slice fa b.nf fc) (.slice la b.nl lc) (.slice ga b.m gc) (.slice qa b.nfa qc) (.slice ta b.nta tc) b
  bel : Below w0.heap.size w0 w
section
variable {w0 w w' : World} {B : Nat} {fa : Option Addr} {fc : Nat} {la : Option Addr} {lc : Nat} {ga : Option Addr} {gc : Nat} {qa : Option Addr} {qc : Nat} {ta : Option Addr} {tc : Nat} {b : BookD}
theorem BkAt.row (h : BkAt w0 w B fa fc la lc ga gc qa qc ta tc b) : BookRow w (.slice fa b.nf fc) (.slice la b.nl lc) (.slice ga b.m gc) (.slice qa b.nfa qc) (.slice ta b.nta tc) b := h.row0.below h.bel (Nat.le_refl _)
theorem BkAt.next (h : BkAt w0 w B fa fc la lc ga gc qa qc ta tc b) (hb : Below w.heap.size w w') : BkAt w0 w' B fa fc la lc ga gc qa qc ta tc b :=
  ⟨BoxN.below h.box hb, h.row0, h.bel.trans (hb.mono h.bel.size)⟩
theorem box_store {w : World} {B : Nat} {cs : List Value} (h : BoxN w B cs) {p : Addr} (hp : B ≠ p.block) (u : Value) : BoxN (w.setCell p u) B cs :=
  ⟨by have := h.1; simp; omega, fun j v hj => (World.cell?_of_block (w := w) (w' := w.setCell p u) (a := ⟨B, j, none⟩) (Below.heap_setCell w p u B hp)).trans (h.2 j v hj)⟩
theorem BkAt.store (h : BkAt w0 w B fa fc la lc ga gc qa qc ta tc b) {p : Addr} (hp : B ≠ p.block) (h0 : w0.heap.size ≤ p.block) (u : Value) : BkAt w0 (w.setCell p u) B fa fc la lc ga gc qa qc ta tc b :=
  ⟨box_store h.box hp u, h.row0, h.bel.setCell h0 u⟩
theorem BkAt.alloc (h : BkAt w0 w B fa fc la lc ga gc qa qc ta tc b) (o : Obj) : BkAt w0 (w.alloc o) B fa fc la lc ga gc qa qc ta tc b :=
  h.next ((Below.refl _ _).alloc (Nat.le_refl _) _)
theorem BkAt.made (h : BookRow w (.slice fa b.nf fc) (.slice la b.nl lc) (.slice ga b.m gc) (.slice qa b.nfa qc) (.slice ta b.nta tc) b) (t : TypeId) :
    BkAt w (w.alloc (.cells (bkList fa fc la lc ga gc qa qc ta tc b).toArray t)) w.heap.size fa fc la lc ga gc qa qc ta tc b :=
  ⟨BoxN.made (Below.refl _ _) rfl, h, (Below.refl _ _).alloc (Nat.le_refl _) _⟩
theorem BkAt.made2 {u : World} (h : BookRow w0 (.slice fa b.nf fc) (.slice la b.nl lc) (.slice ga b.m gc) (.slice qa b.nfa qc) (.slice ta b.nta tc) b) (hu : Below w0.heap.size w0 u) (t : TypeId) (hB : u.heap.size = B) :
    BkAt w0 (u.alloc (.cells (bkList fa fc la lc ga gc qa qc ta tc b).toArray t)) B fa fc la lc ga gc qa qc ta tc b :=
  ⟨BoxN.made (Below.refl _ _) hB, h, hu.trans (((Below.refl _ _).alloc (Nat.le_refl _) _).mono hu.size)⟩
theorem BkAt.grown {q : Nat} (h : BkAt w0 w B fa fc la lc ga gc qa qc ta tc b) (hg : w.grownBy w' (some q)) (hq : B < q) (h0 : w0.heap.size ≤ B) : BkAt w0 w' B fa fc la lc ga gc qa qc ta tc b :=
  ⟨⟨Nat.lt_of_lt_of_le h.box.1 hg.size, fun j v hj => hg.cell (h.box.2 j v hj) (by simp; omega)⟩, h.row0, h.bel.grown hg h.bel.size (fun k e => by cases e; omega)⟩
theorem code_named {P : Program} {c : Code} {Q : Exit → Act → World → Prop} {a : Act} {w : World} (h : ∀ w', Hid (w' = w) → Code.wp P c Q a w') : Code.wp P c Q a w := h w rfl
theorem BkAt.cells (h : BkAt w0 w B fa fc la lc ga gc qa qc ta tc b) :
    w.cell? ⟨B, 0, none⟩ = some (.slice fa b.nf fc) ∧ w.cell? ⟨B, 1, none⟩ = some (.int .i64 b.win) ∧ w.cell? ⟨B, 2, none⟩ = some (.int .i64 b.draw) ∧ w.cell? ⟨B, 3, none⟩ = some (.int .i64 b.loss) ∧ w.cell? ⟨B, 4, none⟩ = some (.slice la b.nl lc) ∧ w.cell? ⟨B, 5, none⟩ = some (.bool b.again) ∧ w.cell? ⟨B, 6, none⟩ = some (.slice ga b.m gc) ∧ w.cell? ⟨B, 7, none⟩ = some (.slice qa b.nfa qc) ∧ w.cell? ⟨B, 8, none⟩ = some (.slice ta b.nta tc) :=
  ⟨h.box.2 0 _ rfl, h.box.2 1 _ rfl, h.box.2 2 _ rfl, h.box.2 3 _ rfl, h.box.2 4 _ rfl, h.box.2 5 _ rfl, h.box.2 6 _ rfl, h.box.2 7 _ rfl, h.box.2 8 _ rfl⟩
theorem BkAt.lt (h : BkAt w0 w B fa fc la lc ga gc qa qc ta tc b) : B < w.heap.size := h.box.1
theorem BkAt.size (h : BkAt w0 w B fa fc la lc ga gc qa qc ta tc b) : w0.heap.size ≤ w.heap.size := h.bel.size
end
theorem BookRow.sixty {w : World} {vf vl vg vfa vta : Value} {b : BookD} (h : BookRow w vf vl vg vfa vta b) : (b.nf : Int) ≤ 9223372036854775807 ∧ (b.nl : Int) ≤ 9223372036854775807 ∧ (b.m : Int) ≤ 9223372036854775807 ∧ (b.nfa : Int) ≤ 9223372036854775807 ∧ (b.nta : Int) ≤ 9223372036854775807 := by
  obtain ⟨_, _, _, h1, _⟩ := h.1.form
  obtain ⟨_, _, _, h2, _⟩ := h.2.1.form
  obtain ⟨_, _, _, h3, _⟩ := h.2.2.1.form
  obtain ⟨_, _, _, h4, _⟩ := h.2.2.2.1.form
  obtain ⟨_, _, _, h5, _⟩ := h.2.2.2.2.form
  exact ⟨by omega, by omega, by omega, by omega, by omega⟩
end Go.Proofs.Ytmhkkdnopcdibaa
set_option linter.unusedVariables false
namespace Go.Proofs.Ytmhkkdnopcdibaa
open Go.RowKit

def valD (key : Int) (r : RowD) (tk fr sd : Int) : Int :=
  if key = 1 then wrap64 (r.points - tk) else if key = 5 then r.points else if key = 2 ∨ key = 6 then wrap64 (r.scored - r.against) else if key = 3 then r.scored else if key = 4 then r.wins else if key = 7 then wrap64 (-fr) else if key = 8 then wrap64 (-sd) else 0
def bookT (b : BookD) (key : Int) (gg : Nat → Int) (ng : Nat) : Nat → RowD := tabR b.win b.draw b.loss (selG (!mutualB key) gg ng) b.g b.m
def bookV (b : BookD) (key : Int) (gg : Nat → Int) (ng : Nat) (i : Nat) : Int := valD key (bookT b key gg ng i) (b.ta i) (b.fa i) (b.f i).seed
theorem row_of {w : World} {a : Option Addr} {c n j : Nat} {T : Nat → RowD} (h : RowRow w (.slice a n c) n T) (hj : j < n) : ∃ bo off, a = some ⟨bo, off, none⟩ ∧ n ≤ c ∧ CellsAt w bo (off + j * 7) (T j).cells := by
  obtain ⟨aa, cap, he, _, hc⟩ := h.form
  simp only [Value.slice.injEq, true_and] at he
  obtain ⟨bo, off, h1, h2, h3⟩ := hc (by omega)
  obtain ⟨rfl, rfl⟩ := he
  exact ⟨bo, off, h1, h2, h3 j hj⟩
def valsL (V : Nat → Int) (k : Nat) : List Int := (List.range k).map V
theorem valsL_succ (V : Nat → Int) (k : Nat) : valsL V (k + 1) = valsL V k ++ [V k] := by unfold valsL; rw [List.range_succ, List.map_append]; rfl
end Go.Proofs.Ytmhkkdnopcdibaa
set_option linter.unusedVariables false
namespace Go.Proofs.Ytmhkkdnopcdibaa
open Go.RowKit

def keyP (b : BookD) (team : Int) : Prop := bookP b ∧ 0 ≤ team ∧ team ≤ b.nf - 1
end Go.Proofs.Ytmhkkdnopcdibaa
set_option linter.unusedVariables false
namespace Go.Proofs.Ytmhkkdnopcdibaa
open Go.RowKit

def teamsP (n : Nat) (ng : Nat) (gg : Nat → Int) : Prop := ∀ i, i < ng → 0 ≤ gg i ∧ gg i ≤ (n : Int) - 1
end Go.Proofs.Ytmhkkdnopcdibaa
set_option linter.unusedVariables false
namespace Go.Proofs.Ytmhkkdnopcdibaa
open Go.RowKit

theorem Try.infoL : (Try.prog.info? 31).map (fun i => (i.zero, i.size, i.bytes)) = some (some (.slice none 0 0), 1, 24) := by kernel_rfl
theorem fresh_ne {w : World} {B : Nat} {e : TypeId} {sz : Nat} {v x : Value} {n : Nat} {xs : List Value} (hx : w.ownsRow B e sz x n xs) (ha : ApartV v x) {g : Nat} (hat : v.ownBlock = some g ∨ w.heap.size ≤ g) : x.ownBlock ≠ some g := fun e1 => by
  rcases hat with h | h
  · exact ha g h e1
  · have := (hx.lt g e1).2; omega
theorem apart_row {v x : Value} (ha : ApartV v x) : ∀ k, x.ownBlock = some k → v.ownBlock ≠ some k := fun k h1 h2 => ha k h2 h1
theorem kept_apart {w w' : World} {B : Nat} {e : TypeId} {sz : Nat} {v x : Value} {n : Nat} {xs : List Value} (hx : w.ownsRow B e sz x n xs) (ha : ApartV v x) (hg : w.grownBy w' v.ownBlock) : w'.ownsRow B e sz x n xs := by
  refine hx.kept hg ?_
  cases hk : x.ownBlock with
  | none => exact .inl rfl
  | some k => exact .inr fun e1 => apart_row ha k hk e1.symm
theorem SplitSt.apart {w : World} {B : Nat} {ov av : Value} {T : List (Int × Value × List Int)} (h : SplitSt w B ov av T) : ApartV ov av ∧ (∀ x ∈ T, ApartV ov x.2.1) ∧ ∀ x ∈ T, ApartV av x.2.1 := by
  have h1 := List.pairwise_cons.1 h.2.2.2
  have h2 := List.pairwise_cons.1 h1.2
  have hm : ∀ x ∈ T, x.2.1 ∈ T.map fun x => x.2.1 := fun x hx => List.mem_map.2 ⟨x, hx, rfl⟩
  exact ⟨h1.1 av (List.mem_cons_self ..), fun x hx => h1.1 _ (List.mem_cons_of_mem _ (hm x hx)), fun x hx => h2.1 _ (hm x hx)⟩
theorem SplitSt.grow1 {w w' : World} {B ga : Nat} {ov av : Value} {T : List (Int × Value × List Int)} (h : SplitSt w B ov av T) (hg : w.grownBy w' av.ownBlock) (hat : av.ownBlock = some ga ∨ w.heap.size ≤ ga) :
    w'.ownsRow B 31 1 ov T.length (T.map fun x => x.2.1) ∧ OwnT w' B 3 T ∧ (∀ x ∈ T, x.2.1.ownBlock ≠ some ga) ∧ ov.ownBlock ≠ some ga := by
  obtain ⟨a1, a2, a3⟩ := h.apart
  exact ⟨kept_apart h.1 a1.symm hg, fun x hx => kept_apart (h.2.2.1 x hx) (a3 x hx) hg, fun x hx => fresh_ne (h.2.2.1 x hx) (a3 x hx) hat, fresh_ne h.1 a1.symm hat⟩
theorem SplitSt.grow2 {w0 w w' : World} {B ga ca na go : Nat} {ov av : Value} {T : List (Int × Value × List Int)} {xs : List Value} (h0 : SplitSt w0 B ov av T) (hov : w.ownsRow B 31 1 ov T.length (T.map fun x => x.2.1)) (hT : OwnT w B 3 T)
    (ha : w.ownsRow B 3 1 (.slice (some ⟨ga, 0, none⟩) na ca) na xs) (hn : ov.ownBlock ≠ some ga) (hg : w.grownBy w' ov.ownBlock) (hat : ov.ownBlock = some go ∨ w.heap.size ≤ go) :
    w'.ownsRow B 3 1 (.slice (some ⟨ga, 0, none⟩) na ca) na xs ∧ OwnT w' B 3 T ∧ (∀ x ∈ T, x.2.1.ownBlock ≠ some go) ∧ go ≠ ga := by
  obtain ⟨a1, a2, a3⟩ := h0.apart
  have a4 : ApartV ov (.slice (some ⟨ga, 0, none⟩) na ca) := fun k h1 h2 => hn (by rw [h1]; simpa [Value.ownBlock] using h2.symm)
  refine ⟨kept_apart ha a4 hg, fun x hx => kept_apart (hT x hx) (a2 x hx) hg, fun x hx => fresh_ne (hT x hx) (a2 x hx) hat, fun e => ?_⟩
  exact fresh_ne ha a4 hat (by rw [e]; rfl)
theorem split_len {V : Nat → Int} {gg : Nat → Int} : ∀ k, (splitP V gg k).length ≤ k
  | 0 => Nat.le_refl _
  | k + 1 => by
    have h : ∀ v t (L : List (Int × List Int)), (insP v t L).length ≤ L.length + 1 := fun v t L => by
      induction L with
      | nil => simp [insP]
      | cons y L ih => unfold insP; split <;> (try split) <;> simp <;> omega
    have := h (V (gg k).toNat) (gg k) (splitP V gg k)
    have := split_len (V := V) (gg := gg) k
    show (insP _ _ _).length ≤ _
    omega
theorem split_lens {V : Nat → Int} {gg : Nat → Int} : ∀ k x, x ∈ splitP V gg k → x.2.length ≤ k
  | 0 => fun x hx => by simp [splitP] at hx
  | k + 1 => by
    have h : ∀ v t m (L : List (Int × List Int)), (∀ x ∈ L, x.2.length ≤ m) → ∀ x ∈ insP v t L, x.2.length ≤ m + 1 := fun v t m L => by
      induction L with
      | nil => intro _ x hx; simp [insP] at hx; subst hx; simp
      | cons y L ih =>
        intro h x hx
        have h0 := h y (List.mem_cons_self ..)
        have h1 := fun z hz => h z (List.mem_cons_of_mem y hz)
        unfold insP at hx
        split at hx
        · rcases List.mem_cons.1 hx with rfl | hx
          · exact Nat.le_succ_of_le h0
          · exact ih h1 x hx
        · split at hx
          · rcases List.mem_cons.1 hx with rfl | hx
            · simp; exact h0
            · exact Nat.le_succ_of_le (h1 x hx)
          · rcases List.mem_cons.1 hx with rfl | hx
            · simp
            · rcases List.mem_cons.1 hx with rfl | hx
              · exact Nat.le_succ_of_le h0
              · exact Nat.le_succ_of_le (h1 x hx)
    exact h _ _ k _ (split_lens k)
def datT (T : List (Int × Value × List Int)) : List (Int × List Int) := T.map fun x => (x.1, x.2.2)
theorem datT_lead (v : Int) (T : List (Int × Value × List Int)) : leadV Prod.fst v (datT T) = leadV Prod.fst v T := by
  induction T with
  | nil => rfl
  | cons y T ih =>
    show leadV Prod.fst v ((y.1, y.2.2) :: datT T) = _
    unfold leadV
    rw [ih]
theorem datT_get {T : List (Int × Value × List Int)} {j : Nat} {x : Int × Value × List Int} (h : T[j]? = some x) : (datT T)[j]? = some (x.1, x.2.2) := by
  unfold datT; rw [List.getElem?_map, h]; rfl
theorem datT_some {T : List (Int × Value × List Int)} {j : Nat} {x : Int × List Int} (h : (datT T)[j]? = some x) : ∃ iv, T[j]? = some (x.1, iv, x.2) := by
  unfold datT at h
  rw [List.getElem?_map] at h
  cases hT : T[j]? with
  | none => rw [hT] at h; cases h
  | some y => rw [hT] at h; simp only [Option.map_some, Option.some.injEq] at h; subst h; exact ⟨y.2.1, rfl⟩
theorem datT_set (T : List (Int × Value × List Int)) (j : Nat) (v : Int) (iv : Value) (p : List Int) : datT (T.set j (v, iv, p)) = (datT T).set j (v, p) := by
  unfold datT; rw [List.map_set]
theorem datT_gap (T : List (Int × Value × List Int)) (j : Nat) (v : Int) (iv : Value) (p : List Int) : datT (gapA T j (v, iv, p)) = gapA (datT T) j (v, p) := by
  unfold datT; rw [gapA_map]
theorem ints_at {w : World} {B n : Nat} {v : Value} {L : List Int} {j : Nat} {x : Int} (h : w.ownsRow B 3 1 v n (L.map (Value.int .i64))) (hj : L[j]? = some x) :
    ∃ g c, v = .slice (some ⟨g, 0, none⟩) n c ∧ n ≤ c ∧ j < n ∧ w.cell? ⟨g, j, none⟩ = some (.int .i64 x) := by
  have hl := h.1
  have hjl : j < L.length := (List.getElem?_eq_some_iff.1 hj).1
  simp at hl
  rcases h.2 with ⟨_, h0⟩ | ⟨g, cap, cur, rfl, hb, hg, hnc, rest⟩
  · omega
  · refine ⟨g, cap, rfl, hnc, by omega, ?_⟩
    rw [h.cellAt j (by omega), List.getElem?_map, hj]
    rfl
theorem vals_at {w : World} {B n : Nat} {e : TypeId} {v : Value} {L : List Value} {j : Nat} {x : Value} (h : w.ownsRow B e 1 v n L) (hj : L[j]? = some x) :
    ∃ g c, v = .slice (some ⟨g, 0, none⟩) n c ∧ n ≤ c ∧ j < n ∧ w.cell? ⟨g, j, none⟩ = some x := by
  have hl := h.1
  have hjl : j < L.length := (List.getElem?_eq_some_iff.1 hj).1
  rcases h.2 with ⟨_, h0⟩ | ⟨g, cap, cur, rfl, hb, hg, hnc, rest⟩
  · omega
  · refine ⟨g, cap, rfl, hnc, by omega, ?_⟩
    rw [h.cellAt j (by omega), hj]
end Go.Proofs.Ytmhkkdnopcdibaa
set_option linter.unusedVariables false
namespace Go.Proofs.Ytmhkkdnopcdibaa
open Go.RowKit

theorem leadV_map {α β : Type} (h : α → β) (f : β → Int) (v : Int) : ∀ L : List α, leadV f v (L.map h) = leadV (fun x => f (h x)) v L
  | [] => rfl
  | y :: L => by
    rw [List.map_cons]
    unfold leadV
    rw [leadV_map h f v L]
def lenS (L : List (Int × List Int)) : Nat := (L.map fun x => x.2.length).sum
theorem insP_sum (v t : Int) : ∀ L, lenS (insP v t L) = lenS L + 1
  | [] => rfl
  | (u, p) :: r => by
    have ih := insP_sum v t r
    unfold lenS at ih ⊢
    unfold insP
    split
    · simp only [List.map_cons, List.sum_cons, ih]; omega
    · split
      · simp only [List.map_cons, List.sum_cons, List.length_append, List.length_cons, List.length_nil]; omega
      · simp only [List.map_cons, List.sum_cons, List.length_cons, List.length_nil]; omega
theorem insP_ne (v t : Int) : ∀ L : List (Int × List Int), (∀ x ∈ L, x.2 ≠ []) → ∀ x ∈ insP v t L, x.2 ≠ []
  | [], _, x, hx => by
    unfold insP at hx
    rw [List.mem_singleton.1 hx]; simp
  | (u, p) :: r, h, x, hx => by
    unfold insP at hx
    have hr : ∀ x ∈ r, x.2 ≠ [] := fun x hx => h x (List.mem_cons_of_mem _ hx)
    split at hx
    · rcases List.mem_cons.1 hx with rfl | hx
      · exact h _ (List.mem_cons_self ..)
      · exact insP_ne v t r hr x hx
    · split at hx
      · rcases List.mem_cons.1 hx with rfl | hx
        · simp
        · exact hr x hx
      · rcases List.mem_cons.1 hx with rfl | hx
        · simp
        · exact h x hx
theorem insP_mem (v t : Int) : ∀ L : List (Int × List Int), ∀ x ∈ insP v t L, ∀ u ∈ x.2, u = t ∨ ∃ y ∈ L, u ∈ y.2
  | [], x, hx, u, hu => by
    unfold insP at hx
    rw [List.mem_singleton.1 hx] at hu
    exact .inl (List.mem_singleton.1 hu)
  | (q, p) :: r, x, hx, u, hu => by
    unfold insP at hx
    split at hx
    · rcases List.mem_cons.1 hx with rfl | hx
      · exact .inr ⟨_, List.mem_cons_self .., hu⟩
      · rcases insP_mem v t r x hx u hu with h | ⟨y, hy, h⟩
        · exact .inl h
        · exact .inr ⟨y, List.mem_cons_of_mem _ hy, h⟩
    · split at hx
      · rcases List.mem_cons.1 hx with rfl | hx
        · rcases List.mem_append.1 hu with h | h
          · exact .inr ⟨_, List.mem_cons_self .., h⟩
          · exact .inl (List.mem_singleton.1 h)
        · exact .inr ⟨x, List.mem_cons_of_mem _ hx, hu⟩
      · rcases List.mem_cons.1 hx with rfl | hx
        · exact .inl (List.mem_singleton.1 hu)
        · exact .inr ⟨x, hx, hu⟩
theorem insP_len (v t : Int) : ∀ L, (insP v t L).length ≤ L.length + 1
  | [] => Nat.le_refl _
  | (u, p) :: r => by
    have ih := insP_len v t r
    unfold insP
    split
    · simp only [List.length_cons]; omega
    · split
      · simp only [List.length_cons]; omega
      · simp only [List.length_cons]; omega
section
variable (V gg : Nat → Int)
theorem splitP_sum : ∀ k, lenS (splitP V gg k) = k
  | 0 => rfl
  | k + 1 => by unfold splitP; rw [insP_sum, splitP_sum k]
theorem splitP_ne : ∀ k, ∀ x ∈ splitP V gg k, x.2 ≠ []
  | 0, x, hx => by cases hx
  | k + 1, x, hx => insP_ne _ _ _ (splitP_ne k) x hx
theorem splitP_mem : ∀ k, ∀ x ∈ splitP V gg k, ∀ u ∈ x.2, ∃ i, i < k ∧ u = gg i
  | 0, x, hx => by cases hx
  | k + 1, x, hx => fun u hu => by
    rcases insP_mem _ _ _ x hx u hu with h | ⟨y, hy, h⟩
    · exact ⟨k, Nat.lt_succ_self _, h⟩
    · obtain ⟨i, hi, e⟩ := splitP_mem k y hy u h
      exact ⟨i, by omega, e⟩
theorem splitP_len : ∀ k, (splitP V gg k).length ≤ k
  | 0 => Nat.le_refl _
  | k + 1 => by unfold splitP; have := insP_len (V (gg k).toNat) (gg k) (splitP V gg k); have := splitP_len k; omega
theorem splitP_congr {V' gg' : Nat → Int} : ∀ k, (∀ i, i < k → gg i = gg' i) → (∀ i, V i = V' i) → splitP V gg k = splitP V' gg' k
  | 0, _, _ => rfl
  | k + 1, h, hV => by
    unfold splitP
    rw [splitP_congr k (fun i hi => h i (by omega)) hV, h k (Nat.lt_succ_self _), hV]
end
theorem part_le {L : List (Int × List Int)} {x : Int × List Int} (h : x ∈ L) : x.2.length ≤ lenS L := by
  induction L with
  | nil => cases h
  | cons y L ih =>
    unfold lenS at ih ⊢
    rw [List.map_cons, List.sum_cons]
    rcases List.mem_cons.1 h with rfl | h
    · omega
    · have := ih h; omega
theorem sum_pos {L : List (Int × List Int)} (hne : ∀ x ∈ L, x.2 ≠ []) (h : L ≠ []) : 0 < lenS L := by
  cases L with
  | nil => exact absurd rfl h
  | cons y L =>
    unfold lenS
    rw [List.map_cons, List.sum_cons]
    have := List.length_pos_iff.2 (hne y (List.mem_cons_self ..))
    omega
theorem part_lt {L : List (Int × List Int)} {x : Int × List Int} (hne : ∀ x ∈ L, x.2 ≠ []) (h : x ∈ L) (hl : 1 < L.length) : x.2.length < lenS L := by
  cases L with
  | nil => cases h
  | cons y L =>
    have hL : L ≠ [] := by intro e; subst e; simp at hl
    have hp := sum_pos (fun x hx => hne x (List.mem_cons_of_mem _ hx)) hL
    have hy := List.length_pos_iff.2 (hne y (List.mem_cons_self ..))
    rcases List.mem_cons.1 h with rfl | h
    · unfold lenS at hp ⊢; rw [List.map_cons, List.sum_cons]; omega
    · have := part_le h
      unfold lenS at this ⊢; rw [List.map_cons, List.sum_cons]; omega
def partsL (b : BookD) (key : Int) (gg : Nat → Int) (n : Nat) : List (List Int) := (splitP (bookV b key gg n) gg n).map Prod.snd
theorem partsL_le {b : BookD} {key : Int} {gg : Nat → Int} {n : Nat} {p : List Int} (h : p ∈ partsL b key gg n) : p.length ≤ n := by
  obtain ⟨x, hx, rfl⟩ := List.mem_map.1 h
  have := part_le hx
  rw [splitP_sum] at this
  exact this
theorem partsL_lt {b : BookD} {key : Int} {gg : Nat → Int} {n : Nat} {p : List Int} (h : p ∈ partsL b key gg n) (hl : 1 < (partsL b key gg n).length) : p.length < n := by
  obtain ⟨x, hx, rfl⟩ := List.mem_map.1 h
  have := part_lt (splitP_ne _ _ _) hx (by unfold partsL at hl; rwa [List.length_map] at hl)
  rw [splitP_sum] at this
  exact this
theorem partsL_ne {b : BookD} {key : Int} {gg : Nat → Int} {n : Nat} {p : List Int} (h : p ∈ partsL b key gg n) : p ≠ [] := by
  obtain ⟨x, hx, rfl⟩ := List.mem_map.1 h
  exact splitP_ne _ _ _ x hx
theorem partsL_mem {b : BookD} {key : Int} {gg : Nat → Int} {n : Nat} {p : List Int} (h : p ∈ partsL b key gg n) : ∀ u ∈ p, ∃ i, i < n ∧ u = gg i := by
  obtain ⟨x, hx, rfl⟩ := List.mem_map.1 h
  exact splitP_mem _ _ _ x hx
theorem partsL_len {b : BookD} {key : Int} {gg : Nat → Int} {n : Nat} : (partsL b key gg n).length ≤ n := by
  unfold partsL; rw [List.length_map]; exact splitP_len _ _ _
def rankM (nl n s : Nat) : Nat := n * (nl + 1) + (nl - s)
def nextS (b : BookD) (m s : Nat) : Nat := if 1 < m ∧ b.again = true ∧ mutualB (b.l s) = true then 0 else s + 1
def rankF (b : BookD) : Nat → List Int → Nat → List (List Int)
  | 0, _, _ => []
  | f + 1, G, s => if G = [] then [] else if G.length = 1 ∨ b.nl ≤ s then [G] else
      (partsL b (b.l s) (getI G) G.length).flatMap fun p => rankF b f p (nextS b (partsL b (b.l s) (getI G) G.length).length s)
theorem rankM_lt {b : BookD} {G p : List Int} {s : Nat} (hs : s < b.nl) (h : p ∈ partsL b (b.l s) (getI G) G.length) :
    rankM b.nl p.length (nextS b (partsL b (b.l s) (getI G) G.length).length s) < rankM b.nl G.length s := by
  unfold rankM nextS
  have h1 := partsL_le h
  split
  · next hh =>
    have h2 := partsL_lt h hh.1
    have h3 : (p.length + 1) * (b.nl + 1) ≤ G.length * (b.nl + 1) := Nat.mul_le_mul_right _ h2
    have h4 : (p.length + 1) * (b.nl + 1) = p.length * (b.nl + 1) + (b.nl + 1) := Nat.succ_mul _ _
    omega
  · have h3 : p.length * (b.nl + 1) ≤ G.length * (b.nl + 1) := Nat.mul_le_mul_right _ h1
    omega
theorem rankF_fuel (b : BookD) : ∀ f f' G s, rankM b.nl G.length s < f → rankM b.nl G.length s < f' → rankF b f G s = rankF b f' G s
  | 0, _, _, _, h, _ => absurd h (Nat.not_lt_zero _)
  | _ + 1, 0, _, _, _, h => absurd h (Nat.not_lt_zero _)
  | f + 1, f' + 1, G, s, h, h' => by
    unfold rankF
    by_cases hG : G = []
    · rw [if_pos hG, if_pos hG]
    · rw [if_neg hG, if_neg hG]
      by_cases hs : G.length = 1 ∨ b.nl ≤ s
      · rw [if_pos hs, if_pos hs]
      · rw [if_neg hs, if_neg hs, List.flatMap_def, List.flatMap_def]
        congr 1
        refine List.map_congr_left fun p hp => ?_
        have := rankM_lt (b := b) (s := s) (by omega) hp
        exact rankF_fuel b f f' p _ (by omega) (by omega)
def rankP (b : BookD) (G : List Int) (s : Nat) : List (List Int) := rankF b (rankM b.nl G.length s + 1) G s
theorem rankP_nil (b : BookD) (s : Nat) : rankP b [] s = [] := by
  unfold rankP rankF; rw [if_pos rfl]
theorem rankP_one (b : BookD) {G : List Int} {s : Nat} (hG : G ≠ []) (h : G.length = 1 ∨ b.nl ≤ s) : rankP b G s = [G] := by
  unfold rankP rankF; rw [if_neg hG, if_pos h]
theorem rankP_step (b : BookD) {G : List Int} {s : Nat} (hG : G ≠ []) (h1 : G.length ≠ 1) (hs : s < b.nl) :
    rankP b G s = (partsL b (b.l s) (getI G) G.length).flatMap fun p => rankP b p (nextS b (partsL b (b.l s) (getI G) G.length).length s) := by
  unfold rankP
  conv => lhs; unfold rankF
  rw [if_neg hG, if_neg (by omega), List.flatMap_def, List.flatMap_def]
  congr 1
  refine List.map_congr_left fun p hp => ?_
  exact rankF_fuel b _ _ p _ (rankM_lt hs hp) (Nat.lt_succ_self _)
end Go.Proofs.Ytmhkkdnopcdibaa
