/-
  The laws' helpers on slices of ints: eqIntS, markIntS, heldIntS, toIntS, szIntS.
-/
import Derived.Test.YtlahjaakegdigaaProg
import Derived.Test.YtlahjaakegdigaaKit
import Derived.WalkKit
import Derived.BigQuiet
import Derived.Deep.QuietTactic
import Derived.Lib.Hide
import Derived.Outline
set_option linter.unusedVariables false
namespace Go.Proofs.Ytlahjaakegdigaa
open Go.RowKit

/-- v is a slice of n ints that reads g in w -/
def IntRow (w : World) (v : Value) (n : Nat) (g : Nat → Int) : Prop :=
  (∃ a cap, v = .slice a 0 cap ∧ n = 0) ∨ ∃ b off cap, v = .slice (some ⟨b, off, none⟩) n cap ∧ 0 < n ∧ n ≤ 9223372036854775807 ∧ (∀ i, i < n → w.cell? ⟨b, off + i, none⟩ = some (.int .i64 (g i))) ∧ n ≤ cap
/-- the same with the value taken apart -/
theorem IntRow.form {w : World} {v : Value} {n : Nat} {g : Nat → Int} (h : IntRow w v n g) :
    ∃ a cap, v = .slice a n cap ∧ n ≤ 9223372036854775807 ∧ (0 < n → ∃ b off, a = some ⟨b, off, none⟩ ∧ ∀ i, i < n → w.cell? ⟨b, off + i, none⟩ = some (.int .i64 (g i))) := by
  rcases h with ⟨a, cap, rfl, rfl⟩ | ⟨b, off, cap, rfl, _, hn, hc, _⟩
  · exact ⟨_, _, rfl, by omega, fun h => absurd h (by omega)⟩
  · exact ⟨_, _, rfl, hn, fun _ => ⟨b, off, rfl, hc⟩⟩
theorem IntRow.drewN {w : World} {v : Value} {n q : Nat} {g : Nat → Int} (h : IntRow w v n g) : IntRow (w.drewN q) v n g := by
  rcases h with h | ⟨b, off, cap, h1, h0, h2, h3, h4⟩
  · exact .inl h
  · exact .inr ⟨b, off, cap, h1, h0, h2, fun i hi => by rw [World.cell?_drewN]; exact h3 i hi, h4⟩
theorem IntRow.below {w w' : World} {B : Nat} {v : Value} {n : Nat} {g : Nat → Int} (h : IntRow w v n g) (hb : Below B w w') (hB : w.heap.size ≤ B) : IntRow w' v n g := by
  rcases h with h | ⟨b, off, cap, h1, h0, h2, h3, h4⟩
  · exact .inl h
  · exact .inr ⟨b, off, cap, h1, h0, h2, fun i hi => (hb.cell (p := ⟨b, off + i, none⟩) (Nat.lt_of_lt_of_le (World.block_lt_of_cell? w _ (h3 i hi)) hB)).trans (h3 i hi), h4⟩
theorem IntRow.of_owns {w : World} {base : Nat} {e : TypeId} {v : Value} {n : Nat} {xs : List Value} {g : Nat → Int} (h : w.ownsRow base e 1 v n xs) (hn : n ≤ 9223372036854775807)
    (hg : ∀ i, i < n → xs[i]? = some (.int .i64 (g i))) : IntRow w v n g := by
  by_cases h0 : n = 0
  · subst h0
    rcases h.2 with ⟨rfl, _⟩ | ⟨b, cap, cur, rfl, _⟩
    · exact .inl ⟨_, _, rfl, rfl⟩
    · exact .inl ⟨_, _, rfl, rfl⟩
  · rcases h.2 with ⟨_, hz⟩ | ⟨b, cap, cur, rfl, _, _, hcap, _⟩
    · exact absurd hz h0
    · refine .inr ⟨b, 0, cap, rfl, by omega, hn, fun i hi => ?_, hcap⟩
      rw [Nat.zero_add, h.cellAt i (by omega)]
      exact hg i hi
theorem IntRow.congr {w : World} {v : Value} {n : Nat} {g g' : Nat → Int} (h : IntRow w v n g) (hg : ∀ i, i < n → g i = g' i) : IntRow w v n g' := by
  rcases h with h | ⟨b, off, cap, h1, h0, h2, h3, h4⟩
  · exact .inl h
  · exact .inr ⟨b, off, cap, h1, h0, h2, fun i hi => by rw [← hg i hi]; exact h3 i hi, h4⟩
def getI (L : List Int) (i : Nat) : Int := L.getD i 0
theorem IntRow.of_list {w : World} {base : Nat} {e : TypeId} {v : Value} {L : List Int} (h : w.ownsRow base e 1 v L.length (L.map (Value.int .i64))) (hn : L.length ≤ 9223372036854775807) :
    IntRow w v L.length (getI L) := IntRow.of_owns h hn fun i hi => by simp [getI, hi]
theorem Try.infoI : (Try.prog.info? 3).map (fun i => (i.zero, i.size, i.bytes)) = some (some (.int .i64 0), 1, 8) := by kernel_rfl

/-- the call makes a slice of n ints that reads g and owns its memory -/
def IntsMade (w : World) (n : Nat) (g : Nat → Int) (e : Ending) (w' : World) : Prop :=
  ∃ v, e = .returned v ∧ IntRow w' v n g ∧ (∃ xs, w'.ownsRow w.heap.size 3 1 v n xs) ∧ Below w.heap.size w w'
end Go.Proofs.Ytlahjaakegdigaa
