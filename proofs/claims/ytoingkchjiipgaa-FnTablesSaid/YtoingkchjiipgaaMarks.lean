/-
  The laws' own helpers on slices of strings: markText, eqStringS, markStringS, heldStringS.
-/
import Derived.Test.YtoingkchjiipgaaProg
import Derived.Test.YtoingkchjiipgaaKit
import Derived.WalkKit
import Derived.BigQuiet
import Derived.Deep.QuietTactic
import Derived.Lib.Hide
import Derived.Deep.RegionHeld3
import Derived.Outline
set_option linter.unusedVariables false
namespace Go.Proofs.Ytoingkchjiipgaa
open Go.RowKit

/-- the digits that markText lays before out -/
def mkd : Nat → Nat → List UInt8 → List UInt8
  | 0, _, out => out
  | f + 1, k, out => if 0 < k then mkd f (k / 10) ((48 + UInt8.ofNat (k % 10)) :: out) else out
def mkT (k : Nat) : ByteArray := ⟨(109 :: mkd k k []).toArray⟩
theorem mkd_step (f k : Nat) (out : List UInt8) (h : 0 < k) : mkd (f + 1) k out = mkd f (k / 10) ((48 + UInt8.ofNat (k % 10)) :: out) := by
  simp [mkd, h]
theorem mkd_end (f : Nat) (out : List UInt8) : mkd f 0 out = out := by cases f <;> simp [mkd]

theorem one_byte_string {P : Program} (w : World) (src dst e : TypeId) (hs : P.underlying src = some (.slice e)) (he : P.underlying e = some (.int .u8)) (hd : P.underlying dst = some .string) (v : Int) :
    (convert src dst (.slice (some ⟨w.heap.size, 0, none⟩) 1 1)).run P (w.alloc (.cells #[.int .u8 v] e)) = .ok (.string ⟨[UInt8.ofNat v.toNat].toArray⟩) (w.alloc (.cells #[.int .u8 v] e)) := by
  have h := run_convert_bytes_arg (P := P) (w.alloc (.cells #[.int .u8 v] e)) src e hs he w.heap.size 0 1 1 [v] rfl (fun i hi => by
    obtain rfl : i = 0 := by omega
    simp) dst hd
  rw [h]
  rfl
theorem cat_lists (x y : List UInt8) : (ByteArray.mk x.toArray ++ ByteArray.mk y.toArray) = ByteArray.mk (x ++ y).toArray := ByteArray.mk_append_mk x y

/-- v is a slice of n strings that reads g in w. -/
def StrRow (w : World) (v : Value) (n : Nat) (g : Nat → ByteArray) : Prop :=
  (∃ a cap, v = .slice a 0 cap ∧ n = 0) ∨ ∃ b off cap, v = .slice (some ⟨b, off, none⟩) n cap ∧ 0 < n ∧ n ≤ 9223372036854775807 ∧ (∀ i, i < n → w.cell? ⟨b, off + i, none⟩ = some (.string (g i))) ∧ n ≤ cap
theorem StrRow.drewN {w : World} {v : Value} {n q : Nat} {g : Nat → ByteArray} (h : StrRow w v n g) : StrRow (w.drewN q) v n g := by
  rcases h with h | ⟨b, off, cap, h1, h0, h2, h3, h4⟩
  · exact .inl h
  · exact .inr ⟨b, off, cap, h1, h0, h2, fun i hi => by rw [World.cell?_drewN]; exact h3 i hi, h4⟩

theorem StrRow.of_owns {w : World} {base : Nat} {e : TypeId} {v : Value} {n : Nat} {xs : List Value} {g : Nat → ByteArray} (h : w.ownsRow base e 1 v n xs) (hn : n ≤ 9223372036854775807)
    (hg : ∀ i, i < n → xs[i]? = some (.string (g i))) : StrRow w v n g := by
  by_cases h0 : n = 0
  · subst h0
    rcases h.2 with ⟨rfl, _⟩ | ⟨b, cap, cur, rfl, _⟩
    · exact .inl ⟨_, _, rfl, rfl⟩
    · exact .inl ⟨_, _, rfl, rfl⟩
  · rcases h.2 with ⟨_, hz⟩ | ⟨b, cap, cur, rfl, _, _, hcap, _⟩
    · exact absurd hz h0
    · refine .inr ⟨b, 0, cap, rfl, by omega, hn, fun i hi => ?_, hcap⟩
      rw [Nat.zero_add, h.cellAt i (by omega)]
      exact hg i hi

def StrMarked (base : Nat) (w : World) (v : Value) (n k : Nat) (e : Ending) (w' : World) : Prop :=
  e = .returned (.int .i64 ((k : Int) + n)) ∧ (∃ ys, w'.ownsRow base 9 1 v n ys ∧ ∀ i, i < n → ys[i]? = some (.string (mkT (k + i)))) ∧ Below base w w'

theorem StrRow.below {w w' : World} {B : Nat} {v : Value} {n : Nat} {g : Nat → ByteArray} (h : StrRow w v n g) (hb : Below B w w') (hB : w.heap.size ≤ B) : StrRow w' v n g := by
  rcases h with h | ⟨b, off, cap, h1, h0, h2, h3, h4⟩
  · exact .inl h
  · exact .inr ⟨b, off, cap, h1, h0, h2, fun i hi => (hb.cell (p := ⟨b, off + i, none⟩) (Nat.lt_of_lt_of_le (World.block_lt_of_cell? w _ (h3 i hi)) hB)).trans (h3 i hi), h4⟩
def getS (L : List ByteArray) (i : Nat) : ByteArray := L.getD i ByteArray.empty
theorem StrRow.of_list {w : World} {base : Nat} {e : TypeId} {v : Value} {L : List ByteArray} (h : w.ownsRow base e 1 v L.length (L.map Value.string)) (hn : L.length ≤ 9223372036854775807) :
    StrRow w v L.length (getS L) := StrRow.of_owns h hn fun i hi => by simp [getS, hi]
end Go.Proofs.Ytoingkchjiipgaa
