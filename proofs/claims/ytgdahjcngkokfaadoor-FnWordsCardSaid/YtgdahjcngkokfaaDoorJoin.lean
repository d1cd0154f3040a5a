/-
  Contracts of Join and of joined: strings.Join by the library's contract.
-/
import Derived.Test.YtgdahjcngkokfaaDoorStrs
import Derived.Test.YtgdahjcngkokfaaDoorShelf
import Derived.Lib.Join
set_option linter.unusedVariables false
namespace Go.Proofs.YtgdahjcngkokfaaDoor
open Go.RowKit

theorem joinTail_snoc (sep x : List UInt8) (r : List (List UInt8)) : Lib.joinTail sep (r ++ [x]) = Lib.joinTail sep r ++ sep ++ x := by
  simp [Lib.joinTail, List.append_assoc]
theorem jn_data (y : ByteArray) (g : Nat → ByteArray) : ∀ k, (jn y g (k + 1)).data.toList = (g 0).data.toList ++ Lib.joinTail y.data.toList ((List.range k).map fun i => (g (i + 1)).data.toList)
  | 0 => by simp [jn_one, Lib.joinTail]
  | k + 1 => by
    rw [jn_more y g (k + 1) (by omega), List.range_succ, List.map_append, List.map_cons, List.map_nil, joinTail_snoc]
    simp only [ByteArray.data_append, Array.toList_append]
    rw [jn_data y g k]
    simp [List.append_assoc]
def listOf (g : Nat → ByteArray) (n : Nat) : List ByteArray := (List.range n).map g
theorem listOf_succ (g : Nat → ByteArray) (k : Nat) : listOf g (k + 1) = g 0 :: (List.range k).map fun i => g (i + 1) := by
  simp only [listOf, List.range_succ_eq_map, List.map_cons, List.map_map]
  rfl
theorem jn_join (y : ByteArray) (g : Nat → ByteArray) (n : Nat) : jn y g n = ⟨(Lib.join ((listOf g n).map (·.data.toList)) y.data.toList).toArray⟩ := by
  cases n with
  | zero => rfl
  | succ k =>
    rw [listOf_succ, List.map_cons, Lib.join_cons, List.map_map]
    have := jn_data y g k
    apply ByteArray.ext
    apply Array.ext'
    rw [this]
    rfl

/-- strings.Join, whatever reads as n strings -/
theorem stringsJoin (v : Value) (n : Nat) (g : Nat → ByteArray) (y : ByteArray) (w : World) (h : StrRow w v n g) (hn : n ≤ 1048576) (ht : tot g n ≤ 1050576) (hy : y.size ≤ 1048576) :
    Calls Tryd.prog 30 #[v, .string y] w fun e w' => e = .returned (.string (jn y g n)) ∧ Below w.heap.size w w' := by
  rcases h with ⟨a, cap, rfl, rfl⟩ | ⟨b, off, cap, rfl, h0, _, hc, hcap⟩
  · exact (Tryd.strings_Join_none a cap y w).mono fun e w' ⟨h1, h2⟩ => ⟨h1, h2 ▸ Below.refl _ _⟩
  · have hlen : (listOf g n).length = n := by simp [listOf]
    have hsz := jn_size y g n
    have hm : n * y.size ≤ 1048576 * 1048576 := Nat.mul_le_mul hn hy
    have hj : (Lib.join ((listOf g n).map (·.data.toList)) y.data.toList).length = (jn y g n).size := by rw [jn_join]; simp [ByteArray.size]
    have C := Tryd.strings_Join b off cap (listOf g n) y w (fun j x hx => by
      have hjn : j < n := by have := (List.getElem?_eq_some_iff.1 hx).1; omega
      rw [hc j hjn]
      simp [listOf, hjn] at hx
      rw [← hx]) (World.block_lt_of_cell? w _ (hc 0 h0)) (by omega) (by omega) (by omega)
    rw [hlen, ← jn_join] at C
    exact C

theorem joined_any (v : Value) (n : Nat) (g : Nat → ByteArray) (y : ByteArray) (w : World) (h : StrRow w v n g) (hn : n ≤ 1048576) (ht : tot g n ≤ 1050576) (hy : y.size ≤ 1048576) :
    Calls Tryd.prog 23 #[.string y, v] w fun e w' => e = .returned (.string (jn y g n)) ∧ Below w.heap.size w w' := by
  have C := Lib.hid (stringsJoin v n g y w h hn ht hy)
  clear h
  go_enter Tryd.func23, Tryd.ntmps23
  go_wp2_with fail
  refine C.out.mono ?_
  rintro e w1 ⟨rfl, b1⟩
  go_wp2
  go_ret
  exact ⟨rfl, b1⟩
theorem join_impl (v : Value) (n : Nat) (g : Nat → ByteArray) (y : ByteArray) (w : World) (h : StrRow w v n g) (hn : n ≤ 1048576) (ht : tot g n ≤ 1050576) (hy : y.size ≤ 1048576) :
    Calls Tryd.prog 10 #[v, .string y] w fun e w' => e = .returned (.string (jn y g n)) ∧ Below w.heap.size w w' := by
  have C := Lib.hid (joined_any v n g y w h hn ht hy)
  clear h
  go_enter Tryd.func10, Tryd.ntmps10
  go_wp2_with fail
  refine C.out.mono ?_
  rintro e w1 ⟨rfl, b1⟩
  go_wp2
  go_ret
  exact ⟨rfl, b1⟩
end Go.Proofs.YtgdahjcngkokfaaDoor
