/-
  Plain facts for FnWords: what is split at one byte and joined by it again is as it was.
-/
import Derived.Test.YtgdahjcngkokfaaDoorJoin
import Derived.Test.YtgdahjcngkokfaaDoorLines
import Derived.Test.YtgdahjcngkokfaaDoorCur
import Derived.Test.YtgdahjcngkokfaaDoorIntParseImpl
set_option linter.unusedVariables false
namespace Go.Proofs.YtgdahjcngkokfaaDoor
open Go.RowKit

theorem join_snoc (xs : List (List UInt8)) (y sep : List UInt8) : Lib.join (xs ++ [y]) sep = (if xs = [] then [] else Lib.join xs sep ++ sep) ++ y := by
  cases xs with
  | nil => simp [Lib.join_one]
  | cons x r =>
    rw [List.cons_append, Lib.join_cons, Lib.join_cons, joinTail_snoc, if_neg (by simp)]
    simp [List.append_assoc]
def bytesOf (L : List ByteArray) : List (List UInt8) := L.map (·.data.toList)
theorem bytesOf_snoc (P : List ByteArray) (x : ByteArray) : bytesOf (P ++ [x]) = bytesOf P ++ [x.data.toList] := by simp [bytesOf]
theorem data_extract (s : ByteArray) (a b : Nat) : (s.extract a b).data.toList = (s.data.toList.take b).drop a := by
  rw [ByteArray.data_extract, Array.toList_extract]
  simp only [List.extract_eq_take_drop]
  rw [List.drop_take]
/-- joined again after k bytes -/
theorem spl_join (s : ByteArray) (c : UInt8) : ∀ k, k ≤ s.size → (spl s ⟨#[c]⟩ k).2 ≤ k ∧
    Lib.join (bytesOf ((spl s ⟨#[c]⟩ k).1 ++ [s.extract (spl s ⟨#[c]⟩ k).2 k])) [c] = s.data.toList.take k := by
  intro k
  induction k with
  | zero =>
    intro _
    refine ⟨Nat.le_refl _, ?_⟩
    simp [spl, bytesOf, Lib.join_one]
  | succ k ih =>
    intro hk
    obtain ⟨hF, ih⟩ := ih (by omega)
    have hkl : k < s.data.toList.length := by rw [Array.length_toList]; exact hk
    obtain ⟨P, F, hp⟩ : ∃ P F, spl s ⟨#[c]⟩ k = (P, F) := ⟨_, _, rfl⟩
    rw [hp] at ih hF
    simp only at ih hF
    have hbat : bat s k = (s.data.toList[k]).toNat := by rw [bat_of s k hk]; rfl
    have hc0 : bat ⟨#[c]⟩ 0 = c.toNat := rfl
    rw [List.take_succ_eq_append_getElem hkl]
    by_cases hs : splAt ⟨#[c]⟩ (bat s k) = true
    · rw [spl_hit hp hs]
      refine ⟨Nat.le_refl _, ?_⟩
      have hcb : s.data.toList[k] = c := by
        simp only [splAt, decide_eq_true_eq] at hs
        obtain ⟨j, hj, hb⟩ := hs
        have h1 : (ByteArray.mk #[c]).size = 1 := rfl
        obtain rfl : j = 0 := by omega
        rw [hc0, hbat] at hb
        exact (UInt8.toNat_inj.1 hb).symm
      simp only
      rw [bytesOf_snoc, join_snoc, if_neg (by rw [bytesOf_snoc]; simp), ih, hcb, data_extract, List.drop_eq_nil_of_le (by rw [List.length_take]; omega)]
      simp
    · have hs' : splAt ⟨#[c]⟩ (bat s k) = false := by simpa using hs
      rw [spl_miss hp hs']
      refine ⟨by show F ≤ k + 1; omega, ?_⟩
      simp only
      have hx : (s.extract F (k + 1)).data.toList = (s.extract F k).data.toList ++ [s.data.toList[k]] := by
        rw [data_extract, data_extract, List.take_succ_eq_append_getElem hkl, List.drop_append_of_le_length (by rw [List.length_take]; omega)]
      rw [bytesOf_snoc, join_snoc, hx, ← List.append_assoc, ← join_snoc, ← bytesOf_snoc, ih]
theorem splAll_join (s : ByteArray) (c : UInt8) : jn ⟨#[c]⟩ (getS (splAll s ⟨#[c]⟩)) (splAll s ⟨#[c]⟩).length = s := by
  have h := (spl_join s c s.size (Nat.le_refl _)).2
  rw [jn_join]
  have hl : listOf (getS (splAll s ⟨#[c]⟩)) (splAll s ⟨#[c]⟩).length = splAll s ⟨#[c]⟩ := by
    apply List.ext_getElem
    · simp [listOf]
    · intro i h1 h2
      simp [listOf, getS, List.getD, List.getElem?_eq_getElem h2]
  rw [hl]
  have h2 : (splAll s ⟨#[c]⟩).map (·.data.toList) = bytesOf ((spl s ⟨#[c]⟩ s.size).1 ++ [s.extract (spl s ⟨#[c]⟩ s.size).2 s.size]) := rfl
  rw [h2]
  apply ByteArray.ext
  apply Array.ext'
  show Lib.join _ [c] = _
  rw [h, List.take_of_length_le (by rw [Array.length_toList]; exact Nat.le_refl _)]
theorem tot_splAll (s : ByteArray) (c : UInt8) : tot (getS (splAll s ⟨#[c]⟩)) (splAll s ⟨#[c]⟩).length ≤ s.size := by
  have key : ∀ (y : ByteArray) (g : Nat → ByteArray) n, tot g n ≤ (jn y g n).size := by
    intro y g n
    induction n with
    | zero => exact Nat.zero_le _
    | succ k ih =>
      unfold tot
      by_cases h : 0 < k
      · rw [jn_more y g k h]
        simp only [ByteArray.size_append]
        omega
      · obtain rfl : k = 0 := by omega
        rw [jn_one]; simp [tot]
  have := key ⟨#[c]⟩ (getS (splAll s ⟨#[c]⟩)) (splAll s ⟨#[c]⟩).length
  rwa [splAll_join] at this
theorem name_x1 : nameB ⟨#[120, 49]⟩ = true := by decide
theorem lines_ab : (lns ⟨#[97, 10, 98, 10]⟩).length = 2 := by decide
theorem parsed_itoa {n : Int} {l : List UInt8} {v : Int} {b : Bool} (hi : isInt n) (hl : Lib.itoa n = l) (h : parsed l v b) : v = n ∧ b = true := by
  have h2 : parsed l n true := by unfold parsed; rw [if_pos rfl]; exact ⟨hi, hl⟩
  exact parsed_unique h h2
end Go.Proofs.YtgdahjcngkokfaaDoor
