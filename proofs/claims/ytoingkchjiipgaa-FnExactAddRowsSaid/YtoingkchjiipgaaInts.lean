/-
  The laws' helpers on slices of ints: eqIntS, markIntS, heldIntS, toIntS, szIntS.
-/
import Derived.Test.YtoingkchjiipgaaProg
import Derived.Test.YtoingkchjiipgaaKit
import Derived.WalkKit
import Derived.BigQuiet
import Derived.Deep.QuietTactic
import Derived.Lib.Hide
import Derived.Outline
set_option linter.unusedVariables false
namespace Go.Proofs.Ytoingkchjiipgaa
open Go.RowKit

/-- v is a slice of n ints that reads g in w -/
def IntRow (w : World) (v : Value) (n : Nat) (g : Nat → Int) : Prop :=
  (∃ a cap, v = .slice a 0 cap ∧ n = 0) ∨ ∃ b off cap, v = .slice (some ⟨b, off, none⟩) n cap ∧ 0 < n ∧ n ≤ 9223372036854775807 ∧ (∀ i, i < n → w.cell? ⟨b, off + i, none⟩ = some (.int .i64 (g i))) ∧ n ≤ cap
/-- the same with the value taken apart -/
theorem IntRow.form {w : World} {v : Value} {n : Nat} {g : Nat → Int} (h : IntRow w v n g) :
    ∃ a cap, v = .slice a n cap ∧ n ≤ 9223372036854775807 ∧ (0 < n → ∃ b off, a = some ⟨b, off, none⟩ ∧ ∀ i, i < n → w.cell? ⟨b, off + i, none⟩ = some (.int .i64 (g i))) := by
  rcases h with ⟨a, cap, rfl, rfl⟩ | ⟨b, off, cap, rfl, _, hn, hc, _⟩
  · exact ⟨_, _, rfl, by omega, fun h => absurd h (by omega)⟩
  · exact ⟨_, _, rfl, hn, fun _ => ⟨b, off, rfl, hc⟩⟩
theorem IntRow.drewN {w : World} {v : Value} {n q : Nat} {g : Nat → Int} (h : IntRow w v n g) : IntRow (w.drewN q) v n g := by
  rcases h with h | ⟨b, off, cap, h1, h0, h2, h3, h4⟩
  · exact .inl h
  · exact .inr ⟨b, off, cap, h1, h0, h2, fun i hi => by rw [World.cell?_drewN]; exact h3 i hi, h4⟩
theorem IntRow.below {w w' : World} {B : Nat} {v : Value} {n : Nat} {g : Nat → Int} (h : IntRow w v n g) (hb : Below B w w') (hB : w.heap.size ≤ B) : IntRow w' v n g := by
  rcases h with h | ⟨b, off, cap, h1, h0, h2, h3, h4⟩
  · exact .inl h
  · exact .inr ⟨b, off, cap, h1, h0, h2, fun i hi => (hb.cell (p := ⟨b, off + i, none⟩) (Nat.lt_of_lt_of_le (World.block_lt_of_cell? w _ (h3 i hi)) hB)).trans (h3 i hi), h4⟩
theorem IntRow.of_owns {w : World} {base : Nat} {e : TypeId} {v : Value} {n : Nat} {xs : List Value} {g : Nat → Int} (h : w.ownsRow base e 1 v n xs) (hn : n ≤ 9223372036854775807)
    (hg : ∀ i, i < n → xs[i]? = some (.int .i64 (g i))) : IntRow w v n g := by
  by_cases h0 : n = 0
  · subst h0
    rcases h.2 with ⟨rfl, _⟩ | ⟨b, cap, cur, rfl, _⟩
    · exact .inl ⟨_, _, rfl, rfl⟩
    · exact .inl ⟨_, _, rfl, rfl⟩
  · rcases h.2 with ⟨_, hz⟩ | ⟨b, cap, cur, rfl, _, _, hcap, _⟩
    · exact absurd hz h0
    · refine .inr ⟨b, 0, cap, rfl, by omega, hn, fun i hi => ?_, hcap⟩
      rw [Nat.zero_add, h.cellAt i (by omega)]
      exact hg i hi
theorem IntRow.congr {w : World} {v : Value} {n : Nat} {g g' : Nat → Int} (h : IntRow w v n g) (hg : ∀ i, i < n → g i = g' i) : IntRow w v n g' := by
  rcases h with h | ⟨b, off, cap, h1, h0, h2, h3, h4⟩
  · exact .inl h
  · exact .inr ⟨b, off, cap, h1, h0, h2, fun i hi => by rw [← hg i hi]; exact h3 i hi, h4⟩
def getI (L : List Int) (i : Nat) : Int := L.getD i 0
theorem IntRow.of_list {w : World} {base : Nat} {e : TypeId} {v : Value} {L : List Int} (h : w.ownsRow base e 1 v L.length (L.map (Value.int .i64))) (hn : L.length ≤ 9223372036854775807) :
    IntRow w v L.length (getI L) := IntRow.of_owns h hn fun i hi => by simp [getI, hi]
theorem Try.infoI : (Try.prog.info? 3).map (fun i => (i.zero, i.size, i.bytes)) = some (some (.int .i64 0), 1, 8) := by kernel_rfl

theorem eqIntS_same (v1 v2 : Value) (n : Nat) (g : Nat → Int) (w : World) (h1 : IntRow w v1 n g) (h2 : IntRow w v2 n g) :
    Calls Try.prog 34 #[v1, v2] w fun e w' => e = .returned (.bool true) ∧ ∃ q, w' = w.drewN q := by
  obtain ⟨a, cap, rfl, hn, hv⟩ := h1.form
  obtain ⟨a', cap', rfl, _, hv'⟩ := h2.form
  have HV := Lib.hid hv
  have HV' := Lib.hid hv'
  clear hv hv' h1 h2
  go_enter Try.func34, Try.ntmps34
  go_wp2
  go_loopw [5] (fun i wr => ∃ k q : Nat, k ≤ n ∧ i = .int .i64 k ∧ wr = w.drewN q) (fun i _ => n - (intOf i).toNat)
  case atStart => exact ⟨0, 0, Nat.zero_le _, rfl, rfl⟩
  case round =>
    obtain ⟨k, q, hk, rfl, rfl⟩ := hrel
    by_cases hlt : k < n
    · obtain ⟨b, off, rfl, hc⟩ := HV.out (by omega)
      obtain ⟨b', off', rfl, hc'⟩ := HV'.out (by omega)
      have c1 := hc k hlt
      have c2 := hc' k hlt
      clear hc hc' HV HV'
      generalize g k = x at *
      go_wp2
      go_quiet (fail)
      go_wp2
      go_roundw
      case rel => exact ⟨k + 1, q + nq, by omega, by go_num, rfl⟩
      case measure => simp [intOf]; omega
    · go_wp2
      go_ret
      exact ⟨rfl, q, rfl⟩

theorem markIntS_any (v : Value) (n k base : Nat) (xs : List Value) (w : World) (hown : w.ownsRow base 3 1 v n xs) (hbase : base ≤ w.heap.size) (h0 : 0 < k) (hk : k + n ≤ 1000000000000) :
    Calls Try.prog 35 #[v, .int .i64 (k : Int)] w fun e w' => e = .returned (.int .i64 ((k : Int) + n)) ∧ IntRow w' v n (fun i => ((k + i : Nat) : Int)) ∧ Below base w w' := by
  obtain ⟨a, cap, rfl, hv⟩ : ∃ a cap, v = .slice a n cap ∧ (0 < n → ∃ g, a = some ⟨g, 0, none⟩ ∧ base ≤ g) := by
    rcases hown.2 with ⟨rfl, rfl⟩ | ⟨g, cap, cur, rfl, hg, _⟩
    · exact ⟨_, _, rfl, fun h => absurd h (by omega)⟩
    · exact ⟨_, _, rfl, fun _ => ⟨g, rfl, hg⟩⟩
  have HV := Lib.hid hv
  clear hv
  go_enter Try.func35, Try.ntmps35
  go_wp2
  go_loopw [1, 5] (fun kv i wr => ∃ (j : Nat) (ys : List Value), j ≤ n ∧ i = .int .i64 j ∧ kv = .int .i64 ((k : Int) + j) ∧ wr.ownsRow base 3 1 (.slice a n cap) n ys ∧ Hid (∀ t, t < j → ys[t]? = some (.int .i64 ((k + t : Nat) : Int))) ∧ Below base w wr)
    (fun _ i _ => n - (intOf i).toNat)
  case atStart => exact ⟨0, xs, Nat.zero_le _, rfl, by go_num, hown, fun t ht => absurd ht (by omega), Below.refl _ _⟩
  case round =>
    obtain ⟨j, ys, hj, rfl, rfl, hown', hys, hb⟩ := hrel
    clear hown
    by_cases hlt : j < n
    · obtain ⟨g, rfl, hg⟩ := HV.out (by omega)
      obtain ⟨u, hu⟩ := owns_some hown' j hlt
      have HU := Lib.hid hu
      have hcl := owns_cell hown' j hlt HU
      have hfr := hown'.frozenAt j
      clear hu HV
      go_wp2
      go_roundw
      case rel =>
        refine ⟨j + 1, ys.set j (.int .i64 ((k : Int) + j)), by omega, by go_num, by go_num, (hown'.stored j _).1, fun t ht => ?_, hb.setCell hg _⟩
        have hlen := hown'.1
        by_cases htj : t = j
        · subst htj
          rw [List.getElem?_set_self (by omega)]
          rfl
        · rw [List.getElem?_set_ne (by omega)]
          exact hys.out t (by omega)
      case measure => simp [intOf]; omega
    · obtain rfl : j = n := by omega
      go_wp2
      go_ret
      exact ⟨rfl, IntRow.of_owns hown' (by omega) hys.out, hb⟩
theorem markIntS_one (v : Value) (n base : Nat) (xs : List Value) (w : World) (hown : w.ownsRow base 3 1 v n xs) (hbase : base ≤ w.heap.size) (hk : n ≤ 999999999999) :
    Calls Try.prog 35 #[v, .int .i64 1] w (fun e w' => e = .returned (.int .i64 ((1 : Int) + n)) ∧ IntRow w' v n (fun i => ((1 + i : Nat) : Int)) ∧ Below base w w') :=
  markIntS_any v n 1 base xs w hown hbase (by omega) (by omega)

/-- the call makes a slice of n ints that reads g and owns its memory -/
def IntsMade (w : World) (n : Nat) (g : Nat → Int) (e : Ending) (w' : World) : Prop :=
  ∃ v, e = .returned v ∧ IntRow w' v n g ∧ (∃ xs, w'.ownsRow w.heap.size 3 1 v n xs) ∧ Below w.heap.size w w'
theorem toIntS_any (v : Value) (n : Nat) (g : Nat → Int) (w : World) (h : IntRow w v n g) (hn : n ≤ 1048576) :
    Calls Try.prog 33 #[v] w (IntsMade w n g) := by
  obtain ⟨i0, hi, hz0, hz1, hz2⟩ := info_parts Try.infoI
  obtain ⟨a, cap, rfl, _, hv⟩ := h.form
  have HV := Lib.hid hv
  clear hv h
  go_enter Try.func33, Try.ntmps33
  go_wp2_with (at_make; refine wpList_make_full _ rfl _ _ 24 rfl w.heap.size 3 i0 (.int .i64 0) 1 Try.underlying24 hi hz0 hz1 .i64 .i64 n n n rfl rfl rfl rfl (by rw [hz2]; omega) (by unfold maxLen; omega) (Nat.le_refl _) ?_; intro w1 hown hg1)
  have hb1 : Below w.heap.size w w1 := (Below.refl _ _).grown hg1 (Nat.le_refl _) (fun k hk => by cases hk)
  clear hg1
  go_loopw [4] (fun i wr => ∃ (j : Nat) (ys : List Value), j ≤ n ∧ i = .int .i64 j ∧ wr.ownsRow w.heap.size 3 1 (.slice (some ⟨w.heap.size, 0, none⟩) n n) n ys ∧ Hid (∀ t, t < j → ys[t]? = some (.int .i64 (g t))) ∧ Below w.heap.size w wr)
    (fun i _ => n - (intOf i).toNat)
  case atStart => exact ⟨0, _, Nat.zero_le _, rfl, hown, fun t ht => absurd ht (by omega), hb1⟩
  case round =>
    obtain ⟨j, ys, hj, rfl, hown', hys, hb⟩ := hrel
    clear hown hb1
    by_cases hlt : j < n
    · obtain ⟨b, off, rfl, hc⟩ := HV.out (by omega)
      have hcj := hc j hlt
      have hcr : wr.cell? ⟨b, off + j, none⟩ = some (.int .i64 (g j)) := (hb.cell (p := ⟨b, off + j, none⟩) (World.block_lt_of_cell? w _ hcj)).trans hcj
      have hblt : b < w.heap.size := World.block_lt_of_cell? w _ hcj
      obtain ⟨u, hu⟩ := owns_some hown' j hlt
      have HU := Lib.hid hu
      have hcl := owns_cell hown' j hlt HU
      have hfr := hown'.frozenAt j
      clear hc HV hcj hu
      go_wp2
      go_roundw
      case rel =>
        refine ⟨j + 1, ys.set j (.int .i64 (g j)), by omega, by go_num, (hown'.stored j _).1, fun t ht => ?_, hb.setCell (Nat.le_refl _) _⟩
        have hlen := hown'.1
        by_cases htj : t = j
        · subst htj
          rw [List.getElem?_set_self (by omega)]
        · rw [List.getElem?_set_ne (by omega)]
          exact hys.out t (by omega)
      case measure => simp [intOf]; omega
    · obtain rfl : j = n := by omega
      go_wp2
      go_ret
      exact ⟨_, rfl, IntRow.of_owns hown' (by omega) hys.out, ⟨_, hown'⟩, hb⟩
end Go.Proofs.Ytoingkchjiipgaa
