/-
  Rule books: the keys' names. KeyName, KeyNamed, IsMutual of the model and of the program.
-/
import Derived.Test.YtlahjaakegdigaaInts
import Derived.Test.YtlahjaakegdigaaTextA
set_option linter.unusedVariables false
namespace Go.Proofs.Ytlahjaakegdigaa
open Go.RowKit

theorem barr_ne {x y : ByteArray} (h : x ≠ y) : (x.toList == y.toList) = false := by
  rw [beq_eq_false_iff_ne, ne_eq, ByteArray.toList_eq, ByteArray.toList_eq]
  exact fun e => h (ByteArray.ext (Array.toList_inj.mp e))
/-- the name of key number k -/
def knm (k : Nat) : ByteArray := match k with
  | 1 => ⟨#[112, 111, 105, 110, 116, 115]⟩
  | 2 => ⟨#[100, 105, 102, 102, 101, 114, 101, 110, 99, 101]⟩
  | 3 => ⟨#[115, 99, 111, 114, 101, 100]⟩
  | 4 => ⟨#[119, 105, 110, 115]⟩
  | 5 => ⟨#[109, 117, 116, 117, 97, 108]⟩
  | 6 => ⟨#[109, 117, 116, 117, 97, 108, 100, 105, 102, 102, 101, 114, 101, 110, 99, 101]⟩
  | 7 => ⟨#[102, 97, 105, 114]⟩
  | 8 => ⟨#[115, 101, 101, 100]⟩
  | _ => ⟨#[]⟩
/-- a key's name, of any number -/
def knmI (k : Int) : ByteArray := if 1 ≤ k ∧ k ≤ 8 then knm k.toNat else ⟨#[]⟩
/-- the first key from k on, of r more, whose name is s; else 0 -/
def keyOf (s : ByteArray) : Nat → Nat → Nat
  | 0, _ => 0
  | r + 1, k => if knm k = s then k else keyOf s r (k + 1)
def mutualB (k : Int) : Bool := decide (k = 5 ∨ k = 6)
end Go.Proofs.Ytlahjaakegdigaa
