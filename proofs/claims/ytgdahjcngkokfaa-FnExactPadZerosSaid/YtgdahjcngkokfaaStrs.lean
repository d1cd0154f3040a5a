/-
  The laws' helpers on slices of strings that came in: how much they hold (szStringS), their copy (toStringS); and the model's Join.
-/
import Derived.Test.YtgdahjcngkokfaaMarks
import Derived.Test.YtgdahjcngkokfaaSplit
set_option linter.unusedVariables false
namespace Go.Proofs.Ytgdahjcngkokfaa
open Go.RowKit

/-- what the frame of a proof is told of a slice of strings that came in -/
def IsStrs (w : World) (a : Option Addr) (len cap : Nat) (zs : List ByteArray) : Prop :=
  (a = none ∧ len = 0 ∧ cap = 0 ∧ zs = []) ∨
  ∃ x, a = some x ∧ len ≤ cap ∧ cap ≤ maxLen ∧ zs.length = cap ∧ (∀ i, i < zs.length → w.cell? (x.add i) = some (.string (zs.getD i ByteArray.empty))) ∧ ∀ s ∈ zs, s.size ≤ maxLen
theorem IsStrs.row {w : World} {a : Option Addr} {len cap : Nat} {zs : List ByteArray} (h : IsStrs w a len cap zs) : StrRow w (.slice a len cap) len (getS zs) := by
  rcases h with ⟨rfl, rfl, rfl, rfl⟩ | ⟨x, rfl, hl, hm, hz, hc, _⟩
  · exact .inl ⟨_, _, rfl, rfl⟩
  · by_cases h0 : len = 0
    · subst h0; exact .inl ⟨_, _, rfl, rfl⟩
    · obtain ⟨b, off, spot⟩ := x
      have hc0 := hc 0 (by omega)
      have hspot : spot = none := by simpa [Addr.add] using World.cell?_spot hc0
      subst hspot
      refine .inr ⟨b, off, cap, rfl, by omega, by unfold maxLen at hm; omega, fun i hi => ?_, hl⟩
      have := hc i (by omega)
      have hadd : (⟨b, off, none⟩ : Addr).add i = ⟨b, off + i, none⟩ := by unfold Addr.add; split <;> simp_all
      rw [hadd] at this
      exact this
theorem IsStrs.small {w : World} {a : Option Addr} {len cap : Nat} {zs : List ByteArray} (h : IsStrs w a len cap zs) (i : Nat) : (getS zs i).size ≤ 9223372036854775807 := by
  have key : ∀ s ∈ zs, s.size ≤ maxLen := by
    rcases h with ⟨rfl, rfl, rfl, rfl⟩ | ⟨x, rfl, hl, hm, hz, hc, h⟩
    · intro s hs; cases hs
    · exact h
  unfold getS
  by_cases hi : i < zs.length
  · have := key zs[i] (List.getElem_mem hi)
    unfold maxLen at this
    simp [List.getD, List.getElem?_eq_getElem hi]; omega
  · simp [List.getD, List.getElem?_eq_none (Nat.le_of_not_lt hi)]

/-- the bytes of the first k strings -/
def tot (g : Nat → ByteArray) : Nat → Nat
  | 0 => 0
  | k + 1 => tot g k + (g k).size
theorem tot_mono (g : Nat → ByteArray) (k : Nat) : ∀ n, k ≤ n → tot g k ≤ tot g n
  | 0, h => by obtain rfl : k = 0 := by omega
               exact Nat.le_refl _
  | n + 1, h => by
    by_cases hk : k = n + 1
    · rw [hk]; exact Nat.le_refl _
    · exact Nat.le_trans (tot_mono g k n (by omega)) (Nat.le_add_right _ _)

def SzPost (g : Nat → ByteArray) (n left : Nat) (w : World) (e : Ending) (w' : World) : Prop :=
  ∃ r : Int, e = .returned (.int .i64 r) ∧ (r < 0 ∨ (0 ≤ r ∧ n + tot g n + r = left)) ∧ w = w'

theorem szStringS_any (v : Value) (n left : Nat) (g : Nat → ByteArray) (w : World) (h : StrRow w v n g) (hg : ∀ i, (g i).size ≤ 9223372036854775807) (hl : left ≤ 1048576) :
    Calls Try.prog 20 #[v, .int .i64 (left : Int)] w (SzPost g n left w) := by
  obtain ⟨a, cap, rfl, hv⟩ : ∃ a cap, v = .slice a n cap ∧ (0 < n → ∃ b off, a = some ⟨b, off, none⟩ ∧ ∀ i, i < n → w.cell? ⟨b, off + i, none⟩ = some (.string (g i))) := by
    rcases h with ⟨a, cap, rfl, rfl⟩ | ⟨b, off, cap, rfl, _, _, hc, _⟩
    · exact ⟨_, _, rfl, fun h => absurd h (by omega)⟩
    · exact ⟨_, _, rfl, fun _ => ⟨b, off, rfl, hc⟩⟩
  have hn : n ≤ 9223372036854775807 := by
    rcases h with ⟨_, _, _, rfl⟩ | ⟨_, _, _, _, _, h, _⟩
    · omega
    · exact h
  have HV := Lib.hid hv
  have HG := Lib.hid hg
  clear hv hg h
  by_cases hbig : left < n
  · have g0 : decide ((left : Int) - (n : Int) < 0) = true := decide_eq_true (by omega)
    go_enter Try.func20, Try.ntmps20
    go_wp2
    go_ret
    exact ⟨_, rfl, .inl (by decide), rfl⟩
  have g0 : decide ((left : Int) - (n : Int) < 0) = false := decide_eq_false (by omega)
  go_enter Try.func20, Try.ntmps20
  go_wp2
  go_loop [1, 5] (fun l i => ∃ (j T : Nat), j ≤ n ∧ i = .int .i64 j ∧ l = .int .i64 ((left : Int) - n - T) ∧ Hid (T = tot g j) ∧ n + T ≤ left) (fun _ i => n - (intOf i).toNat)
  case atStart => exact ⟨0, 0, Nat.zero_le _, rfl, by go_num, rfl, by omega⟩
  case round =>
    obtain ⟨j, T, hj, rfl, rfl, hT, hTl⟩ := hrel
    by_cases hlt : j < n
    · obtain ⟨b, off, rfl, hc⟩ := HV.out (by omega)
      have hcj := hc j hlt
      have hgj := HG.out j
      clear hc HV
      have hstep : Hid (T + (g j).size = tot g (j + 1)) := by show _ = _; rw [hT.out]; rfl
      generalize g j = x at *
      by_cases hover : left < n + T + x.size
      · have g1 : decide ((left : Int) - n - T - x.size < 0) = true := decide_eq_true (by omega)
        go_wp2
        go_ret
        exact ⟨_, rfl, .inl (by decide), rfl⟩
      · have g1 : decide ((left : Int) - n - T - x.size < 0) = false := decide_eq_false (by omega)
        go_wp2
        go_round
        case rel => exact ⟨j + 1, T + x.size, by omega, by go_num, by go_num, hstep, by omega⟩
        case measure => simp [intOf]; omega
    · obtain rfl : j = n := by omega
      go_wp2
      go_ret
      exact ⟨_, rfl, .inr ⟨by omega, by rw [← hT.out]; omega⟩, rfl⟩

theorem toStringS_any (v : Value) (n : Nat) (g : Nat → ByteArray) (w : World) (h : StrRow w v n g) (hn : n ≤ 1048576) :
    Calls Try.prog 22 #[v] w (StrsMade w n g) := by
  obtain ⟨i0, hi, hz0, hz1, hz2⟩ := info_parts Try.infoS
  obtain ⟨a, cap, rfl, hv⟩ : ∃ a cap, v = .slice a n cap ∧ (0 < n → ∃ b off, a = some ⟨b, off, none⟩ ∧ ∀ i, i < n → w.cell? ⟨b, off + i, none⟩ = some (.string (g i))) := by
    rcases h with ⟨a, cap, rfl, rfl⟩ | ⟨b, off, cap, rfl, _, _, hc, _⟩
    · exact ⟨_, _, rfl, fun h => absurd h (by omega)⟩
    · exact ⟨_, _, rfl, fun _ => ⟨b, off, rfl, hc⟩⟩
  have HV := Lib.hid hv
  clear hv h
  go_enter Try.func22, Try.ntmps22
  go_wp2_with (at_make; refine wpList_make_full _ rfl _ _ 23 rfl w.heap.size 9 i0 (.string ByteArray.empty) 1 Try.underlying23 hi hz0 hz1 .i64 .i64 n n n rfl rfl rfl rfl (by rw [hz2]; omega) (by unfold maxLen; omega) (Nat.le_refl _) ?_; intro w1 hown hg1)
  have hb1 : Below w.heap.size w w1 := (Below.refl _ _).grown hg1 (Nat.le_refl _) (fun k hk => by cases hk)
  clear hg1
  go_loopw [4] (fun i wr => ∃ (j : Nat) (ys : List Value), j ≤ n ∧ i = .int .i64 j ∧ wr.ownsRow w.heap.size 9 1 (.slice (some ⟨w.heap.size, 0, none⟩) n n) n ys ∧ Hid (∀ t, t < j → ys[t]? = some (.string (g t))) ∧ Below w.heap.size w wr)
    (fun i _ => n - (intOf i).toNat)
  case atStart => exact ⟨0, _, Nat.zero_le _, rfl, hown, fun t ht => absurd ht (by omega), hb1⟩
  case round =>
    obtain ⟨j, ys, hj, rfl, hown', hys, hb⟩ := hrel
    clear hown hb1
    by_cases hlt : j < n
    · obtain ⟨b, off, rfl, hc⟩ := HV.out (by omega)
      have hcj := hc j hlt
      have hcr : wr.cell? ⟨b, off + j, none⟩ = some (.string (g j)) := (hb.cell (p := ⟨b, off + j, none⟩) (World.block_lt_of_cell? w _ hcj)).trans hcj
      have hblt : b < w.heap.size := World.block_lt_of_cell? w _ hcj
      obtain ⟨u, hu⟩ := owns_some hown' j hlt
      have HU := Lib.hid hu
      have hcl := owns_cell hown' j hlt HU
      have hfr := hown'.frozenAt j
      clear hc HV hcj hu
      go_wp2
      go_roundw
      case rel =>
        refine ⟨j + 1, ys.set j (.string (g j)), by omega, by go_num, (hown'.stored j _).1, fun t ht => ?_, hb.setCell (Nat.le_refl _) _⟩
        have hlen := hown'.1
        by_cases htj : t = j
        · subst htj
          rw [List.getElem?_set_self (by omega)]
        · rw [List.getElem?_set_ne (by omega)]
          exact hys.out t (by omega)
      case measure => simp [intOf]; omega
    · obtain rfl : j = n := by omega
      go_wp2
      go_ret
      exact ⟨_, rfl, StrRow.of_owns hown' (by omega) hys.out, ⟨_, hown'⟩, hb⟩

/-- the first k strings, joined -/
def jn (y : ByteArray) (g : Nat → ByteArray) : Nat → ByteArray
  | 0 => ByteArray.empty
  | k + 1 => if 0 < k then jn y g k ++ y ++ g k else g k
theorem jn_one (y : ByteArray) (g : Nat → ByteArray) : jn y g 1 = g 0 := rfl
theorem jn_more (y : ByteArray) (g : Nat → ByteArray) (k : Nat) (h : 0 < k) : jn y g (k + 1) = jn y g k ++ y ++ g k := by simp [jn, h]
theorem jn_size (y : ByteArray) (g : Nat → ByteArray) : ∀ k, (jn y g k).size ≤ tot g k + k * y.size
  | 0 => by simp [jn]
  | k + 1 => by
    have ih := jn_size y g k
    have h1 : (k + 1) * y.size = k * y.size + y.size := Nat.succ_mul k y.size
    unfold tot
    by_cases h : 0 < k
    · rw [jn_more y g k h]
      simp only [ByteArray.size_append]
      omega
    · obtain rfl : k = 0 := by omega
      rw [jn_one]; omega

theorem join_spec (v : Value) (n : Nat) (g : Nat → ByteArray) (y : ByteArray) (w : World) (h : StrRow w v n g) (hn : n ≤ 1048576) (ht : tot g n ≤ 1048576) (hy : y.size ≤ 1048576) :
    Calls Try.prog 21 #[v, .string y] w fun e w' => e = .returned (.string (jn y g n)) ∧ w = w' := by
  obtain ⟨a, cap, rfl, hv⟩ : ∃ a cap, v = .slice a n cap ∧ (0 < n → ∃ b off, a = some ⟨b, off, none⟩ ∧ ∀ i, i < n → w.cell? ⟨b, off + i, none⟩ = some (.string (g i))) := by
    rcases h with ⟨a, cap, rfl, rfl⟩ | ⟨b, off, cap, rfl, _, _, hc, _⟩
    · exact ⟨_, _, rfl, fun h => absurd h (by omega)⟩
    · exact ⟨_, _, rfl, fun _ => ⟨b, off, rfl, hc⟩⟩
  have HV := Lib.hid hv
  have HT := Lib.hid ht
  clear hv h ht
  go_enter Try.func21, Try.ntmps21
  go_wp2
  go_loop [5, 10] (fun s i => ∃ (j : Nat) (x : ByteArray), j ≤ n ∧ i = .int .i64 j ∧ s = .string x ∧ Hid (x = jn y g j)) (fun _ i => n - (intOf i).toNat)
  case atStart => exact ⟨0, _, Nat.zero_le _, rfl, rfl, rfl⟩
  case round =>
    obtain ⟨j, x, hj, rfl, rfl, hx⟩ := hrel
    by_cases hlt : j < n
    · obtain ⟨b, off, rfl, hc⟩ := HV.out (by omega)
      have hcj := hc j hlt
      have hsx : x.size ≤ 2199023255552 := by
        have h1 := jn_size y g j
        have h2 := tot_mono g j n hj
        have h3 := HT.out
        have h4 : j * y.size ≤ 1048576 * 1048576 := Nat.mul_le_mul (by omega) hy
        rw [hx.out]; omega
      have hsg : (g j).size ≤ 1048576 := by
        have h2 : tot g j + (g j).size ≤ tot g n := tot_mono g (j + 1) n hlt
        have h3 := HT.out
        omega
      clear hc HV
      by_cases h0 : 0 < j
      · have g1 : decide ((0 : Int) < (j : Int)) = true := decide_eq_true (by omega)
        have Hx : Hid (x ++ y ++ g j = jn y g (j + 1)) := by show _ = _; rw [jn_more y g j h0, hx.out]
        generalize g j = z at *
        go_wp2
        go_round
        case rel => exact ⟨j + 1, _, by omega, by go_num, rfl, Hx⟩
        case measure => simp [intOf]; omega
      · obtain rfl : j = 0 := by omega
        have Hx : Hid (x ++ g 0 = jn y g 1) := by show _ = _; rw [hx.out]; simp [jn]
        simp only [Nat.add_zero] at hcj
        generalize g 0 = z at *
        go_wp2
        go_round
        case rel => exact ⟨1, _, by omega, by go_num, rfl, Hx⟩
        case measure => simp [intOf]; omega
    · obtain rfl : j = n := by omega
      go_wp2
      go_ret
      exact ⟨by rw [← hx.out]; rfl, rfl⟩
end Go.Proofs.Ytgdahjcngkokfaa
