/-
  The laws' helpers on slices of strings that came in: how much they hold (szStringS), their copy (toStringS); and the model's Join.
-/
import Derived.Test.YtgdahjcngkokfaaDoorMarks
import Derived.Test.YtgdahjcngkokfaaDoorSplit
set_option linter.unusedVariables false
namespace Go.Proofs.YtgdahjcngkokfaaDoor
open Go.RowKit

/-- what the frame of a proof is told of a slice of strings that came in -/
def IsStrs (w : World) (a : Option Addr) (len cap : Nat) (zs : List ByteArray) : Prop :=
  (a = none ∧ len = 0 ∧ cap = 0 ∧ zs = []) ∨
  ∃ x, a = some x ∧ len ≤ cap ∧ cap ≤ maxLen ∧ zs.length = cap ∧ (∀ i, i < zs.length → w.cell? (x.add i) = some (.string (zs.getD i ByteArray.empty))) ∧ ∀ s ∈ zs, s.size ≤ maxLen
theorem IsStrs.row {w : World} {a : Option Addr} {len cap : Nat} {zs : List ByteArray} (h : IsStrs w a len cap zs) : StrRow w (.slice a len cap) len (getS zs) := by
  rcases h with ⟨rfl, rfl, rfl, rfl⟩ | ⟨x, rfl, hl, hm, hz, hc, _⟩
  · exact .inl ⟨_, _, rfl, rfl⟩
  · by_cases h0 : len = 0
    · subst h0; exact .inl ⟨_, _, rfl, rfl⟩
    · obtain ⟨b, off, spot⟩ := x
      have hc0 := hc 0 (by omega)
      have hspot : spot = none := by simpa [Addr.add] using World.cell?_spot hc0
      subst hspot
      refine .inr ⟨b, off, cap, rfl, by omega, by unfold maxLen at hm; omega, fun i hi => ?_, hl⟩
      have := hc i (by omega)
      have hadd : (⟨b, off, none⟩ : Addr).add i = ⟨b, off + i, none⟩ := by unfold Addr.add; split <;> simp_all
      rw [hadd] at this
      exact this
theorem IsStrs.small {w : World} {a : Option Addr} {len cap : Nat} {zs : List ByteArray} (h : IsStrs w a len cap zs) (i : Nat) : (getS zs i).size ≤ 9223372036854775807 := by
  have key : ∀ s ∈ zs, s.size ≤ maxLen := by
    rcases h with ⟨rfl, rfl, rfl, rfl⟩ | ⟨x, rfl, hl, hm, hz, hc, h⟩
    · intro s hs; cases hs
    · exact h
  unfold getS
  by_cases hi : i < zs.length
  · have := key zs[i] (List.getElem_mem hi)
    unfold maxLen at this
    simp [List.getD, List.getElem?_eq_getElem hi]; omega
  · simp [List.getD, List.getElem?_eq_none (Nat.le_of_not_lt hi)]

/-- the bytes of the first k strings -/
def tot (g : Nat → ByteArray) : Nat → Nat
  | 0 => 0
  | k + 1 => tot g k + (g k).size
theorem tot_mono (g : Nat → ByteArray) (k : Nat) : ∀ n, k ≤ n → tot g k ≤ tot g n
  | 0, h => by obtain rfl : k = 0 := by omega
               exact Nat.le_refl _
  | n + 1, h => by
    by_cases hk : k = n + 1
    · rw [hk]; exact Nat.le_refl _
    · exact Nat.le_trans (tot_mono g k n (by omega)) (Nat.le_add_right _ _)

def SzPost (g : Nat → ByteArray) (n left : Nat) (w : World) (e : Ending) (w' : World) : Prop :=
  ∃ r : Int, e = .returned (.int .i64 r) ∧ (r < 0 ∨ (0 ≤ r ∧ n + tot g n + r = left)) ∧ w = w'

/-- the first k strings, joined -/
def jn (y : ByteArray) (g : Nat → ByteArray) : Nat → ByteArray
  | 0 => ByteArray.empty
  | k + 1 => if 0 < k then jn y g k ++ y ++ g k else g k
theorem jn_one (y : ByteArray) (g : Nat → ByteArray) : jn y g 1 = g 0 := rfl
theorem jn_more (y : ByteArray) (g : Nat → ByteArray) (k : Nat) (h : 0 < k) : jn y g (k + 1) = jn y g k ++ y ++ g k := by simp [jn, h]
theorem jn_size (y : ByteArray) (g : Nat → ByteArray) : ∀ k, (jn y g k).size ≤ tot g k + k * y.size
  | 0 => by simp [jn]
  | k + 1 => by
    have ih := jn_size y g k
    have h1 : (k + 1) * y.size = k * y.size + y.size := Nat.succ_mul k y.size
    unfold tot
    by_cases h : 0 < k
    · rw [jn_more y g k h]
      simp only [ByteArray.size_append]
      omega
    · obtain rfl : k = 0 := by omega
      rw [jn_one]; omega

end Go.Proofs.YtgdahjcngkokfaaDoor
