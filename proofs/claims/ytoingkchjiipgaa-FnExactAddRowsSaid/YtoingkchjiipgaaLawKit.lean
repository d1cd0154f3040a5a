/-
  For the walks of exact laws (tools/exact.py writes them): what is kept of boxes, slices and owned rows while the law goes on.
-/
import Derived.Test.YtoingkchjiipgaaKit
import Derived.Test.YtoingkchjiipgaaInts
set_option linter.unusedVariables false
namespace Go.Proofs.Ytoingkchjiipgaa
open Go.RowKit

/-- block B holds the cells cs -/
def BoxN (w : World) (B : Nat) (cs : List Value) : Prop := B < w.heap.size ∧ ∀ j v, cs[j]? = some v → w.cell? ⟨B, j, none⟩ = some v
theorem BoxN.below {w w' : World} {B : Nat} {cs : List Value} (h : BoxN w B cs) (hb : Below w.heap.size w w') : BoxN w' B cs :=
  ⟨Nat.lt_of_lt_of_le h.1 hb.size, fun j v hv => (hb.cell (p := ⟨B, j, none⟩) h.1).trans (h.2 j v hv)⟩
theorem BoxN.made {u w2 : World} {cs : Array Value} {t : TypeId} {B : Nat} (h : Below (u.alloc (.cells cs t)).heap.size (u.alloc (.cells cs t)) w2) (hB : u.heap.size = B) : BoxN w2 B cs.toList := by
  subst hB
  refine ⟨Nat.lt_of_lt_of_le (by simp) h.size, fun j v hv => ?_⟩
  rw [h.cell (p := ⟨u.heap.size, j, none⟩) (by simp), cell_of_row _ u.heap.size j _ t (0, 0) (heap_alloc_new u _)]
  simpa using hv
theorem below_prev {u w2 : World} {o : Obj} (h : Below (u.alloc o).heap.size (u.alloc o) w2) : Below u.heap.size u w2 :=
  ((Below.refl _ _).alloc (Nat.le_refl _) _).trans (h.mono (by simp))
/-- w' is w but for blocks from lo up to hi -/
structure Touch (lo hi : Nat) (w w' : World) : Prop where
  os : w'.os = w.os
  tape : w'.tape = w.tape
  output : w'.output = w.output
  size : w.heap.size ≤ w'.heap.size
  block : ∀ k, k < w.heap.size → (k < lo ∨ hi ≤ k) → w'.heap[k]? = w.heap[k]?
theorem Touch.refl (lo hi : Nat) (w : World) : Touch lo hi w w := ⟨rfl, rfl, rfl, Nat.le_refl _, fun _ _ _ => rfl⟩
theorem Touch.trans {lo hi : Nat} {a b c : World} (h : Touch lo hi a b) (k : Touch lo hi b c) : Touch lo hi a c :=
  ⟨k.os.trans h.os, k.tape.trans h.tape, k.output.trans h.output, Nat.le_trans h.size k.size, fun i hi ho => (k.block i (Nat.lt_of_lt_of_le hi h.size) ho).trans (h.block i hi ho)⟩
theorem Touch.of_below {lo hi : Nat} {w w' : World} (h : Below w.heap.size w w') : Touch lo hi w w' := ⟨h.os, h.tape, h.output, h.size, fun k hk _ => h.block k hk⟩
theorem Touch.below {lo hi B : Nat} {w w' : World} (h : Touch lo hi w w') (hB : B ≤ lo) (hs : B ≤ w.heap.size) : Below B w w' := ⟨h.os, h.tape, h.output, h.size, fun k hk => h.block k (by omega) (.inl (by omega))⟩
theorem Touch.grown {lo hi : Nat} {w w' : World} {row : Option Nat} (h : w.grownBy w' row) (hr : ∀ k, row = some k → lo ≤ k ∧ k < hi) : Touch lo hi w w' :=
  ⟨h.os, h.tape, h.output, h.size, fun k hk ho => h.block k hk (fun e => by have := hr k e.symm; omega)⟩
theorem BoxN.touch {lo hi : Nat} {w w' : World} {B : Nat} {cs : List Value} (h : BoxN w B cs) (t : Touch lo hi w w') (ho : B < lo ∨ hi ≤ B) : BoxN w' B cs :=
  ⟨Nat.lt_of_lt_of_le h.1 t.size, fun j v hv => (World.cell?_of_block (w := w) (a := ⟨B, j, none⟩) (t.block B h.1 ho)).trans (h.2 j v hv)⟩
theorem BoxN.free {u w2 : World} {cs : Array Value} {t : TypeId} {B : Nat} (h : Below (u.alloc (.cells cs t)).heap.size (u.alloc (.cells cs t)) w2) (hB : u.heap.size = B) (j : Nat) : w2.frozen? ⟨B, j, none⟩ = false := by
  subst hB
  rw [h.frozen (p := ⟨u.heap.size, j, none⟩) (by simp)]
  exact frozen_of_row _ u.heap.size j _ t (heap_alloc_new u _)
theorem Touch.setCell {lo hi : Nat} {a w : World} (h : Touch lo hi a w) (p : Addr) (u : Value) (h1 : lo ≤ p.block) (h2 : p.block < hi) : Touch lo hi a (w.setCell p u) :=
  h.trans ⟨rfl, rfl, rfl, by simp [World.setCell], fun k _ ho => Below.heap_setCell _ _ _ _ (by omega)⟩
/-- the slice v lies in blocks from lo up to hi -/
def InW (lo hi : Nat) (v : Value) : Prop := ∀ k, v.ownBlock = some k → lo ≤ k ∧ k < hi
theorem InW.of_owns {w : World} {base : Nat} {e : TypeId} {size : Nat} {v : Value} {n : Nat} {xs : List Value} (h : w.ownsRow base e size v n xs) : InW base w.heap.size v := h.lt
theorem InW.mono {lo hi lo' hi' : Nat} {v : Value} (h : InW lo hi v) (h1 : lo' ≤ lo) (h2 : hi ≤ hi') : InW lo' hi' v := fun k hk => by have := h k hk; omega
theorem InW.nat {hi : Nat} {v : Value} {w : World} {n : Nat} {g : Nat → Int} (h : IntRow w v n g) (h0 : 0 < n) (hs : w.heap.size ≤ hi) : InW 0 hi v := by
  rcases h with ⟨_, _, _, rfl⟩ | ⟨b, off, cap, rfl, _, _, hc, _⟩
  · omega
  · intro k hk
    have := World.block_lt_of_cell? w _ (hc 0 h0)
    simp only [Value.ownBlock, Option.some.injEq] at hk
    subst hk
    exact ⟨Nat.zero_le _, Nat.lt_of_lt_of_le this hs⟩
theorem owns_touch {lo hi lo' hi' : Nat} {w w' : World} {base : Nat} {e : TypeId} {size : Nat} {v : Value} {n : Nat} {xs : List Value} (h : w.ownsRow base e size v n xs) (t : Touch lo hi w w') (hv : InW lo' hi' v) (ho : hi' ≤ lo ∨ hi ≤ lo') : w'.ownsRow base e size v n xs := by
  refine ⟨h.1, ?_⟩
  rcases h.2 with hn | ⟨g, cap, cur, rfl, hbg, hgg, rest⟩
  · exact .inl hn
  · have := hv g rfl
    exact .inr ⟨g, cap, cur, rfl, hbg, (t.block g (Array.getElem?_eq_some_iff.1 hgg).1 (by omega)).trans hgg, rest⟩
theorem IntRow.touch {lo hi lo' hi' : Nat} {w w' : World} {v : Value} {n : Nat} {g : Nat → Int} (h : IntRow w v n g) (t : Touch lo hi w w') (hv : 0 < n → InW lo' hi' v) (ho : hi' ≤ lo ∨ hi ≤ lo') : IntRow w' v n g := by
  rcases h with h | ⟨b, off, cap, rfl, h0, h2, h3, h4⟩
  · exact .inl h
  · have := hv h0 b rfl
    exact .inr ⟨b, off, cap, rfl, h0, h2, fun i hi => (World.cell?_of_block (w := w) (a := ⟨b, off + i, none⟩) (t.block b (World.block_lt_of_cell? w _ (h3 i hi)) (by omega))).trans (h3 i hi), h4⟩
/-- a slice of n ints with g, in memory of the call's own from base on -/
def SzPost (c : Nat) (left : Int) (w : World) (e : Ending) (w' : World) : Prop := (∃ r : Int, e = .returned (.int .i64 r) ∧ (r < 0 ∨ (0 ≤ r ∧ (c : Int) + r = left))) ∧ Below w.heap.size w w'
theorem x_sz_IntS (v : Value) (n : Nat) (g : Nat → Int) (left : Int) (w : World) (hl0 : 0 ≤ left) (hl : left ≤ 1048576) (h : IntRow w v n g) :
    Calls Try.prog 57 #[v, .int .i64 left] w (SzPost n left w) := by
  obtain ⟨a, cap, rfl, hn, _⟩ := h.form
  clear h
  by_cases hbig : left < n
  · have g0 : decide (left - (n : Int) < 0) = true := decide_eq_true (by omega)
    go_enter Try.func57, Try.ntmps57
    go_wp2
    go_ret
    exact ⟨⟨_, rfl, .inl (by decide)⟩, Below.refl _ _⟩
  · have g0 : decide (left - (n : Int) < 0) = false := decide_eq_false (by omega)
    go_enter Try.func57, Try.ntmps57
    go_wp2
    go_ret
    exact ⟨⟨_, rfl, .inr ⟨by omega, by omega⟩⟩, Below.refl _ _⟩
theorem x_to_IntS (v : Value) (n : Nat) (g : Nat → Int) (w : World) (h : IntRow w v n g) (hn : n ≤ 1048576) : Calls Try.prog 33 #[v] w (IntsMade w n g) := toIntS_any v n g w h hn
theorem x_eq_IntS (v : Value) (n : Nat) (g : Nat → Int) (v' : Value) (w : World) (h : IntRow w v n g) (h' : IntRow w v' n g) :
    Calls Try.prog 34 #[v, v'] w fun e w' => e = .returned (.bool true) ∧ Below w.heap.size w w' :=
  (eqIntS_same v v' n g w h h').mono fun _ _ ⟨he, q, hw⟩ => ⟨he, hw ▸ below_drewN (Below.refl _ _) q⟩
/-- as markIntS_any, told of everything but the slice's own block -/
theorem markIntS_grown (v : Value) (n k base : Nat) (xs : List Value) (w : World) (hown : w.ownsRow base 3 1 v n xs) (h0 : 0 < k) (hk : k + n ≤ 1000000000000) :
    Calls Try.prog 35 #[v, .int .i64 (k : Int)] w fun e w' => e = .returned (.int .i64 ((k : Int) + n)) ∧ IntRow w' v n (fun i => (k : Int) + (i : Int)) ∧ w.grownBy w' v.ownBlock := by
  obtain ⟨a, cap, rfl, hv⟩ : ∃ a cap, v = .slice a n cap ∧ (0 < n → ∃ g, a = some ⟨g, 0, none⟩ ∧ base ≤ g) := by
    rcases hown.2 with ⟨rfl, rfl⟩ | ⟨g, cap, cur, rfl, hg, _⟩
    · exact ⟨_, _, rfl, fun h => absurd h (by omega)⟩
    · exact ⟨_, _, rfl, fun _ => ⟨g, rfl, hg⟩⟩
  have HV := Lib.hid hv
  clear hv
  go_enter Try.func35, Try.ntmps35
  go_wp2
  go_loopw [1, 5] (fun kv i wr => ∃ (j : Nat) (ys : List Value), j ≤ n ∧ i = .int .i64 j ∧ kv = .int .i64 ((k : Int) + j) ∧ wr.ownsRow base 3 1 (.slice a n cap) n ys ∧ Hid (∀ t : Nat, t < j → ys[t]? = some (.int .i64 ((k : Int) + t))) ∧ w.grownBy wr (Value.slice a n cap).ownBlock)
    (fun _ i _ => n - (intOf i).toNat)
  case atStart => exact ⟨0, xs, Nat.zero_le _, rfl, by go_num, hown, fun t ht => absurd ht (by omega), ⟨rfl, rfl, rfl, Nat.le_refl _, fun _ _ _ => rfl⟩⟩
  case round =>
    obtain ⟨j, ys, hj, rfl, rfl, hown', hys, hb⟩ := hrel
    clear hown
    by_cases hlt : j < n
    · obtain ⟨g, rfl, hg⟩ := HV.out (by omega)
      obtain ⟨u, hu⟩ := owns_some hown' j hlt
      have HU := Lib.hid hu
      have hcl := owns_cell hown' j hlt HU
      have hfr := hown'.frozenAt j
      clear hu HV
      go_wp2
      go_roundw
      case rel =>
        refine ⟨j + 1, ys.set j (.int .i64 ((k : Int) + j)), by omega, by go_num, by go_num, (hown'.stored j _).1, fun t ht => ?_, ?_⟩
        · have hlen := hown'.1
          by_cases htj : t = j
          · subst htj
            rw [List.getElem?_set_self (by omega)]
          · rw [List.getElem?_set_ne (by omega)]
            exact hys.out t (by omega)
        · have h2 := (hown'.stored j (.int .i64 ((k : Int) + j))).2
          exact ⟨h2.os.trans hb.os, h2.tape.trans hb.tape, h2.output.trans hb.output, Nat.le_trans hb.size h2.size, fun i hi hne => (h2.block i (Nat.lt_of_lt_of_le hi hb.size) hne).trans (hb.block i hi hne)⟩
      case measure => simp [intOf]; omega
    · obtain rfl : j = n := by omega
      go_wp2
      go_ret
      exact ⟨rfl, IntRow.of_owns hown' (by omega) hys.out, hb⟩
theorem x_mk_IntS (v : Value) (n : Nat) (k : Int) (lo hi base : Nat) (xs : List Value) (w : World) (hown : w.ownsRow base 3 1 v n xs) (hin : InW lo hi v) (h0 : 0 < k) (hk : k + n ≤ 1000000000000) :
    Calls Try.prog 35 #[v, .int .i64 k] w fun e w' => e = .returned (.int .i64 (k + n)) ∧ IntRow w' v n (fun i => k + (i : Int)) ∧ Touch lo hi w w' := by
  obtain ⟨j, rfl⟩ : ∃ j : Nat, k = j := ⟨k.toNat, by omega⟩
  exact (markIntS_grown v n j base xs w hown (by omega) (by omega)).mono fun _ _ ⟨he, hr, hg⟩ => ⟨he, hr, Touch.grown hg hin⟩
end Go.Proofs.Ytoingkchjiipgaa
