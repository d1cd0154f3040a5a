/-
  The laws' own helpers on slices of strings: markText, eqStringS, markStringS, heldStringS.
-/
import Derived.Test.YtgdahjcngkokfaaProg
import Derived.Test.YtgdahjcngkokfaaKit
import Derived.WalkKit
import Derived.BigQuiet
import Derived.Deep.QuietTactic
import Derived.Lib.Hide
import Derived.Deep.RegionHeld3
import Derived.Outline
set_option linter.unusedVariables false
namespace Go.Proofs.Ytgdahjcngkokfaa
open Go.RowKit

/-- the digits that markText lays before out -/
def mkd : Nat → Nat → List UInt8 → List UInt8
  | 0, _, out => out
  | f + 1, k, out => if 0 < k then mkd f (k / 10) ((48 + UInt8.ofNat (k % 10)) :: out) else out
def mkT (k : Nat) : ByteArray := ⟨(109 :: mkd k k []).toArray⟩
theorem mkd_step (f k : Nat) (out : List UInt8) (h : 0 < k) : mkd (f + 1) k out = mkd f (k / 10) ((48 + UInt8.ofNat (k % 10)) :: out) := by
  simp [mkd, h]
theorem mkd_end (f : Nat) (out : List UInt8) : mkd f 0 out = out := by cases f <;> simp [mkd]

theorem one_byte_string {P : Program} (w : World) (src dst e : TypeId) (hs : P.underlying src = some (.slice e)) (he : P.underlying e = some (.int .u8)) (hd : P.underlying dst = some .string) (v : Int) :
    (convert src dst (.slice (some ⟨w.heap.size, 0, none⟩) 1 1)).run P (w.alloc (.cells #[.int .u8 v] e)) = .ok (.string ⟨[UInt8.ofNat v.toNat].toArray⟩) (w.alloc (.cells #[.int .u8 v] e)) := by
  have h := run_convert_bytes_arg (P := P) (w.alloc (.cells #[.int .u8 v] e)) src e hs he w.heap.size 0 1 1 [v] rfl (fun i hi => by
    obtain rfl : i = 0 := by omega
    simp) dst hd
  rw [h]
  rfl
theorem cat_lists (x y : List UInt8) : (ByteArray.mk x.toArray ++ ByteArray.mk y.toArray) = ByteArray.mk (x ++ y).toArray := ByteArray.mk_append_mk x y

theorem markText_any (k : Nat) (w : World) (h0 : 0 < k) (hk : k ≤ 1000000000000) :
    Calls Try.prog 29 #[.int .i64 (k : Int)] w fun e w' => e = .returned (.string (mkT k)) ∧ Below w.heap.size w w' := by
  have g0 : decide ((k : Int) ≤ 0) = false := decide_eq_false (by omega)
  go_enter Try.func29, Try.ntmps29
  go_wp2
  go_loopw [0, 3] (fun kv out wr => ∃ (j f : Nat) (l : List UInt8), kv = .int .i64 (j : Int) ∧ out = .string ⟨l.toArray⟩ ∧ j ≤ f ∧ l.length + j ≤ k ∧ Hid (mkd f j l = mkd k k []) ∧ Below w.heap.size w wr) (fun kv _ _ => (intOf kv).toNat)
  case atStart => exact ⟨k, k, [], rfl, rfl, Nat.le_refl _, by simp, rfl, Below.refl _ _⟩
  case round =>
    obtain ⟨j, f, l, rfl, rfl, hj, hl, hm, hb⟩ := hrel
    by_cases hp : 0 < j
    · have hcv := one_byte_string (P := Try.prog) wr 39 9 5 Try.underlying39 Try.underlying5 Try.underlying9 (48 + (j : Int) % 10)
      have hz : l.toArray.size ≤ 1000000000000 := by simp; omega
      go_wp2
      go_roundw
      case rel =>
        obtain ⟨f', rfl⟩ : ∃ f', f = f' + 1 := ⟨f - 1, by omega⟩
        exact ⟨j / 10, f', (48 + UInt8.ofNat (j % 10)) :: l, by go_num, congrArg Value.string (cat_lists [48 + UInt8.ofNat (j % 10)] l), by omega, by simp; omega,
          (by rw [← mkd_step f' j l hp]; exact hm), hb.alloc hb.size _⟩
      case measure => simp [intOf]; omega
    · obtain rfl : j = 0 := by omega
      have hz : l.toArray.size ≤ 1000000000000 := by simp; omega
      have he : mkT k = ⟨(109 :: l).toArray⟩ := by
        unfold mkT
        rw [← hm.out, mkd_end]
      have He := Lib.hid he
      clear he hm
      go_wp2
      go_ret
      exact ⟨by rw [He.out]; exact congrArg (fun x => Ending.returned (Value.string x)) (cat_lists [109] l), hb⟩

/-- v is a slice of n strings that reads g in w. -/
def StrRow (w : World) (v : Value) (n : Nat) (g : Nat → ByteArray) : Prop :=
  (∃ a cap, v = .slice a 0 cap ∧ n = 0) ∨ ∃ b off cap, v = .slice (some ⟨b, off, none⟩) n cap ∧ 0 < n ∧ n ≤ 9223372036854775807 ∧ (∀ i, i < n → w.cell? ⟨b, off + i, none⟩ = some (.string (g i))) ∧ n ≤ cap
theorem StrRow.drewN {w : World} {v : Value} {n q : Nat} {g : Nat → ByteArray} (h : StrRow w v n g) : StrRow (w.drewN q) v n g := by
  rcases h with h | ⟨b, off, cap, h1, h0, h2, h3, h4⟩
  · exact .inl h
  · exact .inr ⟨b, off, cap, h1, h0, h2, fun i hi => by rw [World.cell?_drewN]; exact h3 i hi, h4⟩

theorem eqStringS_same (v1 v2 : Value) (n : Nat) (g : Nat → ByteArray) (w : World) (h1 : StrRow w v1 n g) (h2 : StrRow w v2 n g) :
    Calls Try.prog 15 #[v1, v2] w fun e w' => e = .returned (.bool true) ∧ ∃ q, w' = w.drewN q := by
  by_cases hn : n = 0
  · obtain ⟨a, cap, rfl⟩ : ∃ a cap, v1 = .slice a 0 cap := by
      rcases h1 with ⟨a, cap, h, _⟩ | ⟨_, _, _, _, h, _⟩
      · exact ⟨a, cap, h⟩
      · omega
    obtain ⟨a', cap', rfl⟩ : ∃ a cap, v2 = .slice a 0 cap := by
      rcases h2 with ⟨a, cap, h, _⟩ | ⟨_, _, _, _, h, _⟩
      · exact ⟨a, cap, h⟩
      · omega
    clear h1 h2
    go_enter Try.func15, Try.ntmps15
    go_wp2
    refine wp_loop_rounds 1 ?_
    rw [rounds_succ]
    go_wp2
    go_ret
    exact ⟨rfl, 0, rfl⟩
  · obtain ⟨b, off, cap, rfl, _, hb, hc⟩ : ∃ b off cap, v1 = .slice (some ⟨b, off, none⟩) n cap ∧ 0 < n ∧ n ≤ 9223372036854775807 ∧ ∀ i, i < n → w.cell? ⟨b, off + i, none⟩ = some (.string (g i)) := by
      rcases h1 with ⟨a, cap, h, h0⟩ | h
      · exact absurd h0 hn
      · obtain ⟨b, off, cap, k1, k2, k3, k4, _⟩ := h
        exact ⟨b, off, cap, k1, k2, k3, k4⟩
    obtain ⟨b', off', cap', rfl, _, hb', hc'⟩ : ∃ b off cap, v2 = .slice (some ⟨b, off, none⟩) n cap ∧ 0 < n ∧ n ≤ 9223372036854775807 ∧ ∀ i, i < n → w.cell? ⟨b, off + i, none⟩ = some (.string (g i)) := by
      rcases h2 with ⟨a, cap, h, h0⟩ | h
      · exact absurd h0 hn
      · obtain ⟨b, off, cap, k1, k2, k3, k4, _⟩ := h
        exact ⟨b, off, cap, k1, k2, k3, k4⟩
    clear h1 h2
    have Hc := Lib.hid hc
    have Hc' := Lib.hid hc'
    clear hc hc'
    go_enter Try.func15, Try.ntmps15
    go_wp2
    go_loopw [5] (fun i wr => ∃ k q : Nat, k ≤ n ∧ i = .int .i64 k ∧ wr = w.drewN q) (fun i _ => n - (intOf i).toNat)
    case atStart => exact ⟨0, 0, Nat.zero_le _, rfl, rfl⟩
    case round =>
      obtain ⟨k, q, hk, rfl, rfl⟩ := hrel
      by_cases hlt : k < n
      · have c1 : w.cell? ⟨b, off + k, none⟩ = some (.string (g k)) :=  Hc.out k hlt
        have c2 : w.cell? ⟨b', off' + k, none⟩ = some (.string (g k)) :=  Hc'.out k hlt
        go_wp2
        go_quiet (fail)
        go_wp2
        go_roundw
        case rel => exact ⟨k + 1, q + nq, by omega, by go_num, rfl⟩
        case measure => simp [intOf]; omega
      · go_wp2
        go_ret
        exact ⟨rfl, q, rfl⟩

theorem StrRow.of_owns {w : World} {base : Nat} {e : TypeId} {v : Value} {n : Nat} {xs : List Value} {g : Nat → ByteArray} (h : w.ownsRow base e 1 v n xs) (hn : n ≤ 9223372036854775807)
    (hg : ∀ i, i < n → xs[i]? = some (.string (g i))) : StrRow w v n g := by
  by_cases h0 : n = 0
  · subst h0
    rcases h.2 with ⟨rfl, _⟩ | ⟨b, cap, cur, rfl, _⟩
    · exact .inl ⟨_, _, rfl, rfl⟩
    · exact .inl ⟨_, _, rfl, rfl⟩
  · rcases h.2 with ⟨_, hz⟩ | ⟨b, cap, cur, rfl, _, _, hcap, _⟩
    · exact absurd hz h0
    · refine .inr ⟨b, 0, cap, rfl, by omega, hn, fun i hi => ?_, hcap⟩
      rw [Nat.zero_add, h.cellAt i (by omega)]
      exact hg i hi

def StrMarked (base : Nat) (w : World) (v : Value) (n k : Nat) (e : Ending) (w' : World) : Prop :=
  e = .returned (.int .i64 ((k : Int) + n)) ∧ (∃ ys, w'.ownsRow base 9 1 v n ys ∧ ∀ i, i < n → ys[i]? = some (.string (mkT (k + i)))) ∧ Below base w w'

theorem markStringS_any (v : Value) (n k base : Nat) (xs : List Value) (w : World) (hown : w.ownsRow base 9 1 v n xs) (hbase : base ≤ w.heap.size) (h0 : 0 < k) (hk : k + n ≤ 1000000000000) :
    Calls Try.prog 16 #[v, .int .i64 (k : Int)] w (StrMarked base w v n k) := by
  obtain ⟨a, cap, rfl, hv⟩ : ∃ a cap, v = .slice a n cap ∧ (0 < n → ∃ g, a = some ⟨g, 0, none⟩ ∧ base ≤ g) := by
    rcases hown.2 with ⟨rfl, rfl⟩ | ⟨g, cap, cur, rfl, hg, _⟩
    · exact ⟨_, _, rfl, fun h => absurd h (by omega)⟩
    · exact ⟨_, _, rfl, fun _ => ⟨g, rfl, hg⟩⟩
  have HV := Lib.hid hv
  clear hv
  go_enter Try.func16, Try.ntmps16
  go_wp2
  go_loopw [1, 5] (fun kv i wr => ∃ (j : Nat) (ys : List Value), j ≤ n ∧ i = .int .i64 j ∧ kv = .int .i64 ((k : Int) + j) ∧ wr.ownsRow base 9 1 (.slice a n cap) n ys ∧ Hid (∀ t, t < j → ys[t]? = some (.string (mkT (k + t)))) ∧ Below base w wr)
    (fun _ i _ => n - (intOf i).toNat)
  case atStart => exact ⟨0, xs, Nat.zero_le _, rfl, by go_num, hown, fun t ht => absurd ht (by omega), Below.refl _ _⟩
  case round =>
    obtain ⟨j, ys, hj, rfl, rfl, hown', hys, hb⟩ := hrel
    clear hown
    by_cases hlt : j < n
    · obtain ⟨g, rfl, hg⟩ := HV.out (by omega)
      have hsz := hb.size
      obtain ⟨u, hu⟩ := owns_some hown' j hlt
      have HU := Lib.hid hu
      clear hu
      go_wp2_with (go_at_call 29; refine (markText_any (k + j) _ (by omega) (by omega)).mono ?_; rintro e w1 ⟨rfl, hb1⟩; have hown1 := owns_below hown' hb1 (Nat.le_refl _); have hcl := owns_cell hown1 j hlt HU; have hfr := hown1.frozenAt j)
      go_roundw
      case rel =>
        refine ⟨j + 1, ys.set j (.string (mkT (k + j))), by omega, by go_num, by go_num, (hown1.stored j _).1, fun t ht => ?_, (hb.trans (hb1.mono (by omega))).setCell hg _⟩
        have hlen := hown1.1
        by_cases htj : t = j
        · subst htj
          rw [List.getElem?_set_self (by omega)]
        · rw [List.getElem?_set_ne (by omega)]
          exact hys.out t (by omega)
      case measure => simp [intOf]; omega
    · obtain rfl : j = n := by omega
      go_wp2
      go_ret
      exact ⟨rfl, ⟨ys, hown', hys⟩, hb⟩

theorem heldStringS_same (v : Value) (n k : Nat) (w : World) (h : StrRow w v n (fun i => mkT (k + i))) (h0 : 0 < k) (hk : k + n ≤ 1000000000000) :
    Calls Try.prog 17 #[v, .int .i64 (k : Int)] w fun e w' => e = .returned (.int .i64 ((k : Int) + n)) ∧ Below w.heap.size w w' := by
  obtain ⟨a, cap, rfl, hv⟩ : ∃ a cap, v = .slice a n cap ∧ (0 < n → ∃ b off, a = some ⟨b, off, none⟩ ∧ ∀ i, i < n → w.cell? ⟨b, off + i, none⟩ = some (.string (mkT (k + i)))) := by
    rcases h with ⟨a, cap, rfl, rfl⟩ | ⟨b, off, cap, rfl, _, _, hc, _⟩
    · exact ⟨_, _, rfl, fun h => absurd h (by omega)⟩
    · exact ⟨_, _, rfl, fun _ => ⟨b, off, rfl, hc⟩⟩
  have HV := Lib.hid hv
  clear hv h
  go_enter Try.func17, Try.ntmps17
  go_wp2
  go_loopw [1, 5] (fun kv i wr => ∃ (j : Nat), j ≤ n ∧ i = .int .i64 j ∧ kv = .int .i64 ((k : Int) + j) ∧ Below w.heap.size w wr)
    (fun _ i _ => n - (intOf i).toNat)
  case atStart => exact ⟨0, Nat.zero_le _, rfl, by go_num, Below.refl _ _⟩
  case round =>
    obtain ⟨j, hj, rfl, rfl, hb⟩ := hrel
    by_cases hlt : j < n
    · obtain ⟨b, off, rfl, hc⟩ := HV.out (by omega)
      have hcj := hc j hlt
      have hblt : b < w.heap.size := World.block_lt_of_cell? w _ hcj
      have hcr : wr.cell? ⟨b, off + j, none⟩ = some (.string (mkT (k + j))) := (hb.cell (p := ⟨b, off + j, none⟩) hblt).trans hcj
      have HB := Lib.hid hb
      have hsz := hb.size
      clear hc HV hcj hb
      go_wp2
      go_region_held3 (fun w' => w'.cell? ⟨b, off + j, none⟩ = some (.string (mkT (k + j))) ∧ Hid (Below w.heap.size w w')) (first | exact ⟨hcr, HB.out.drew⟩ | exact ⟨(Below.cell hb1 (p := ⟨b, off + j, none⟩) (Nat.lt_of_lt_of_le hblt hsz)).trans hcr, HB.out.drew.trans (hb1.mono hsz)⟩) (first | (go_at_call 29; refine (markText_any (k + j) _ (by omega) (by omega)).mono ?_; rintro e w1 ⟨rfl, hb1⟩))
      have HB1 : Hid (Below w.heap.size w w1) := And.right (by assumption)
      clear hb1 HB hcr
      go_wp2
      go_roundw
      case rel => exact ⟨j + 1, by omega, by go_num, by go_num, HB1.out⟩
      case measure => simp [intOf]; omega
    · obtain rfl : j = n := by omega
      go_wp2
      go_ret
      exact ⟨rfl, hb⟩

theorem StrRow.below {w w' : World} {B : Nat} {v : Value} {n : Nat} {g : Nat → ByteArray} (h : StrRow w v n g) (hb : Below B w w') (hB : w.heap.size ≤ B) : StrRow w' v n g := by
  rcases h with h | ⟨b, off, cap, h1, h0, h2, h3, h4⟩
  · exact .inl h
  · exact .inr ⟨b, off, cap, h1, h0, h2, fun i hi => (hb.cell (p := ⟨b, off + i, none⟩) (Nat.lt_of_lt_of_le (World.block_lt_of_cell? w _ (h3 i hi)) hB)).trans (h3 i hi), h4⟩
def getS (L : List ByteArray) (i : Nat) : ByteArray := L.getD i ByteArray.empty
theorem StrRow.of_list {w : World} {base : Nat} {e : TypeId} {v : Value} {L : List ByteArray} (h : w.ownsRow base e 1 v L.length (L.map Value.string)) (hn : L.length ≤ 9223372036854775807) :
    StrRow w v L.length (getS L) := StrRow.of_owns h hn fun i hi => by simp [getS, hi]
theorem markStringS_one (v : Value) (n base : Nat) (xs : List Value) (w : World) (hown : w.ownsRow base 9 1 v n xs) (hbase : base ≤ w.heap.size) (hk : n ≤ 999999999999) :
    Calls Try.prog 16 #[v, .int .i64 1] w (fun e w' => e = .returned (.int .i64 ((1 : Int) + n)) ∧ StrRow w' v n (fun i => mkT (1 + i)) ∧ Below base w w') :=
  (markStringS_any v n 1 base xs w hown hbase (by omega) (by omega)).mono fun e w' ⟨h1, ⟨ys, h2, h3⟩, h4⟩ => ⟨h1, StrRow.of_owns h2 (by omega) h3, h4⟩
theorem heldStringS_one (v : Value) (n : Nat) (w : World) (h : StrRow w v n (fun i => mkT (1 + i))) (hk : n ≤ 999999999999) :
    Calls Try.prog 17 #[v, .int .i64 1] w fun e w' => e = .returned (.int .i64 ((1 : Int) + n)) ∧ Below w.heap.size w w' :=
  heldStringS_same v n 1 w h (by omega) (by omega)
end Go.Proofs.Ytgdahjcngkokfaa
