/-
  No cell of these rows narrows 'for every input' (looked for: loops, veiled, ifaces, maps, wideKeys, modest, calm, conditions, laid).
  DERIVED. THE GIVEN ROWS OF THIS SEAT. 8 by the template 'for every input the law returns true; each argument reads behind the call as it read before'; 0 by the template 'total and deterministic' (their statements: YtlahjaakegdigaaTotals.lean).
  GIVEN WITH THE SEED: the statements are not yours to turn. If you find one false, say at which input.
  Laid BY PROGRAM, IN A SANDBOX (cutbox-rows.mjs): the forced cells as the released guide's own fill.sh prints them over the translation 115cc001a652f339… (all of the seat's roots in one cut). By AI agents, Wed Nov 11 2026. No macro, syntax, notation, axiom, sorry.
-/
import Derived.Test.YtlahjaakegdigaaChecked
import GoSem.Claim
import GoSem.ClaimJoined
import GoSem.ClaimMapViews
import Derived.JoinedTies
import Derived.KernelRfl
namespace Go.Proofs.Ytlahjaakegdigaa
/- THE CELL 'sum', in the pinned program and in every row, IS THE sha256 OF THE DUMP (.gsa) THAT YtlahjaakegdigaaProg.lean LOADS. Nothing in Lean hashes anything: it is a label: what it is worth is what the hold of that sum in a sandbox is worth. -/
noncomputable def Try.pinned : Pinned := { name := "ytlahjaakegdigaa", sum := "115cc001a652f339f92dce91d3a822a928ddbaaff1eff717584c9e5de3adb183", checked := Try.checked }
namespace Rows
def none {H : Type} : Left H := { results := [], args := [] }

/-- 'laws.FnExactNoteOk': WHATEVER THE INPUT: true; the input reads as it did. -/
def fnExactNoteOkSpec : ChangeSpec := { name := "fnExactNoteOk", fn := fun _ => fun
  | [d1, d2, d3] => { results := [.lit (.bool true)], args := [d1, d2, d3] }
  | _ => none }
def fnExactNoteOkRow : OpenClaim := { program := "ytlahjaakegdigaa", sum := "115cc001a652f339f92dce91d3a822a928ddbaaff1eff717584c9e5de3adb183", func := "loop.example/g00834/laws.FnExactNoteOk", spec := "fnExactNoteOk", apart := false }
def FnExactNoteOkSaid : Prop := fnExactNoteOkRow.holds Try.pinned (OpenSpec.ofChange fnExactNoteOkSpec)

/-- ITS FALSE NEIGHBOUR: 'it returns false'. Refute it at one input. -/
def fnExactNoteOkWrong : ChangeSpec := { name := "fnExactNoteOk", fn := fun _ => fun
  | [d1, d2, d3] => { results := [.lit (.bool false)], args := [d1, d2, d3] }
  | _ => none }
def FnExactNoteOkWrongFalsely : Prop := fnExactNoteOkRow.holds Try.pinned (OpenSpec.ofChange fnExactNoteOkWrong)

/-- 'laws.FnExactNotesOk': WHATEVER THE INPUT: true; the input reads as it did. -/
def fnExactNotesOkSpec : ChangeSpec := { name := "fnExactNotesOk", fn := fun _ => fun
  | [d1, d2, d3] => { results := [.lit (.bool true)], args := [d1, d2, d3] }
  | _ => none }
def fnExactNotesOkRow : OpenClaim := { program := "ytlahjaakegdigaa", sum := "115cc001a652f339f92dce91d3a822a928ddbaaff1eff717584c9e5de3adb183", func := "loop.example/g00834/laws.FnExactNotesOk", spec := "fnExactNotesOk", apart := false }
def FnExactNotesOkSaid : Prop := fnExactNotesOkRow.holds Try.pinned (OpenSpec.ofChange fnExactNotesOkSpec)

/-- ITS FALSE NEIGHBOUR: 'it returns false'. Refute it at one input. -/
def fnExactNotesOkWrong : ChangeSpec := { name := "fnExactNotesOk", fn := fun _ => fun
  | [d1, d2, d3] => { results := [.lit (.bool false)], args := [d1, d2, d3] }
  | _ => none }
def FnExactNotesOkWrongFalsely : Prop := fnExactNotesOkRow.holds Try.pinned (OpenSpec.ofChange fnExactNotesOkWrong)

/-- 'laws.FnExactCanonNotes': WHATEVER THE INPUT: true; the input reads as it did. -/
def fnExactCanonNotesSpec : ChangeSpec := { name := "fnExactCanonNotes", fn := fun _ => fun
  | [d] => { results := [.lit (.bool true)], args := [d] }
  | _ => none }
def fnExactCanonNotesRow : OpenClaim := { program := "ytlahjaakegdigaa", sum := "115cc001a652f339f92dce91d3a822a928ddbaaff1eff717584c9e5de3adb183", func := "loop.example/g00834/laws.FnExactCanonNotes", spec := "fnExactCanonNotes", unfollowed := true, recurses := true, apart := false }
def FnExactCanonNotesSaid : Prop := fnExactCanonNotesRow.holds Try.pinned (OpenSpec.ofChange fnExactCanonNotesSpec)

/-- ITS FALSE NEIGHBOUR: 'it returns false'. Refute it at one input. -/
def fnExactCanonNotesWrong : ChangeSpec := { name := "fnExactCanonNotes", fn := fun _ => fun
  | [d] => { results := [.lit (.bool false)], args := [d] }
  | _ => none }
def FnExactCanonNotesWrongFalsely : Prop := fnExactCanonNotesRow.holds Try.pinned (OpenSpec.ofChange fnExactCanonNotesWrong)

/-- 'laws.FnExactApplyNotes': WHATEVER THE INPUT: true; the input reads as it did. -/
def fnExactApplyNotesSpec : ChangeSpec := { name := "fnExactApplyNotes", fn := fun _ => fun
  | [d1, d2, d3] => { results := [.lit (.bool true)], args := [d1, d2, d3] }
  | _ => none }
def fnExactApplyNotesRow : OpenClaim := { program := "ytlahjaakegdigaa", sum := "115cc001a652f339f92dce91d3a822a928ddbaaff1eff717584c9e5de3adb183", func := "loop.example/g00834/laws.FnExactApplyNotes", spec := "fnExactApplyNotes", apart := false }
def FnExactApplyNotesSaid : Prop := fnExactApplyNotesRow.holds Try.pinned (OpenSpec.ofChange fnExactApplyNotesSpec)

/-- ITS FALSE NEIGHBOUR: 'it returns false'. Refute it at one input. -/
def fnExactApplyNotesWrong : ChangeSpec := { name := "fnExactApplyNotes", fn := fun _ => fun
  | [d1, d2, d3] => { results := [.lit (.bool false)], args := [d1, d2, d3] }
  | _ => none }
def FnExactApplyNotesWrongFalsely : Prop := fnExactApplyNotesRow.holds Try.pinned (OpenSpec.ofChange fnExactApplyNotesWrong)

/-- 'laws.FnExactSerialOf': WHATEVER THE INPUT: true; the input reads as it did. -/
def fnExactSerialOfSpec : ChangeSpec := { name := "fnExactSerialOf", fn := fun _ => fun
  | [d1, d2] => { results := [.lit (.bool true)], args := [d1, d2] }
  | _ => none }
def fnExactSerialOfRow : OpenClaim := { program := "ytlahjaakegdigaa", sum := "115cc001a652f339f92dce91d3a822a928ddbaaff1eff717584c9e5de3adb183", func := "loop.example/g00834/laws.FnExactSerialOf", spec := "fnExactSerialOf", apart := false }
def FnExactSerialOfSaid : Prop := fnExactSerialOfRow.holds Try.pinned (OpenSpec.ofChange fnExactSerialOfSpec)

/-- ITS FALSE NEIGHBOUR: 'it returns false'. Refute it at one input. -/
def fnExactSerialOfWrong : ChangeSpec := { name := "fnExactSerialOf", fn := fun _ => fun
  | [d1, d2] => { results := [.lit (.bool false)], args := [d1, d2] }
  | _ => none }
def FnExactSerialOfWrongFalsely : Prop := fnExactSerialOfRow.holds Try.pinned (OpenSpec.ofChange fnExactSerialOfWrong)

/-- 'laws.FnExactCorrections': WHATEVER THE INPUT: true; the input reads as it did. -/
def fnExactCorrectionsSpec : ChangeSpec := { name := "fnExactCorrections", fn := fun _ => fun
  | [d1, d2] => { results := [.lit (.bool true)], args := [d1, d2] }
  | _ => none }
def fnExactCorrectionsRow : OpenClaim := { program := "ytlahjaakegdigaa", sum := "115cc001a652f339f92dce91d3a822a928ddbaaff1eff717584c9e5de3adb183", func := "loop.example/g00834/laws.FnExactCorrections", spec := "fnExactCorrections", apart := false }
def FnExactCorrectionsSaid : Prop := fnExactCorrectionsRow.holds Try.pinned (OpenSpec.ofChange fnExactCorrectionsSpec)

/-- ITS FALSE NEIGHBOUR: 'it returns false'. Refute it at one input. -/
def fnExactCorrectionsWrong : ChangeSpec := { name := "fnExactCorrections", fn := fun _ => fun
  | [d1, d2] => { results := [.lit (.bool false)], args := [d1, d2] }
  | _ => none }
def FnExactCorrectionsWrongFalsely : Prop := fnExactCorrectionsRow.holds Try.pinned (OpenSpec.ofChange fnExactCorrectionsWrong)

/-- 'laws.FnExactUpTo': WHATEVER THE INPUT: true; the input reads as it did. -/
def fnExactUpToSpec : ChangeSpec := { name := "fnExactUpTo", fn := fun _ => fun
  | [d1, d2] => { results := [.lit (.bool true)], args := [d1, d2] }
  | _ => none }
def fnExactUpToRow : OpenClaim := { program := "ytlahjaakegdigaa", sum := "115cc001a652f339f92dce91d3a822a928ddbaaff1eff717584c9e5de3adb183", func := "loop.example/g00834/laws.FnExactUpTo", spec := "fnExactUpTo", apart := false }
def FnExactUpToSaid : Prop := fnExactUpToRow.holds Try.pinned (OpenSpec.ofChange fnExactUpToSpec)

/-- ITS FALSE NEIGHBOUR: 'it returns false'. Refute it at one input. -/
def fnExactUpToWrong : ChangeSpec := { name := "fnExactUpTo", fn := fun _ => fun
  | [d1, d2] => { results := [.lit (.bool false)], args := [d1, d2] }
  | _ => none }
def FnExactUpToWrongFalsely : Prop := fnExactUpToRow.holds Try.pinned (OpenSpec.ofChange fnExactUpToWrong)

/-- 'laws.FnExactSameNotes': WHATEVER THE INPUT: true; the input reads as it did. -/
def fnExactSameNotesSpec : ChangeSpec := { name := "fnExactSameNotes", fn := fun _ => fun
  | [d1, d2] => { results := [.lit (.bool true)], args := [d1, d2] }
  | _ => none }
def fnExactSameNotesRow : OpenClaim := { program := "ytlahjaakegdigaa", sum := "115cc001a652f339f92dce91d3a822a928ddbaaff1eff717584c9e5de3adb183", func := "loop.example/g00834/laws.FnExactSameNotes", spec := "fnExactSameNotes", apart := false }
def FnExactSameNotesSaid : Prop := fnExactSameNotesRow.holds Try.pinned (OpenSpec.ofChange fnExactSameNotesSpec)

/-- ITS FALSE NEIGHBOUR: 'it returns false'. Refute it at one input. -/
def fnExactSameNotesWrong : ChangeSpec := { name := "fnExactSameNotes", fn := fun _ => fun
  | [d1, d2] => { results := [.lit (.bool false)], args := [d1, d2] }
  | _ => none }
def FnExactSameNotesWrongFalsely : Prop := fnExactSameNotesRow.holds Try.pinned (OpenSpec.ofChange fnExactSameNotesWrong)

/- THE SECOND FORM. 'bulk': how many values and letters a reading holds, each counted each time it is reached (what is shared counts as often as it is met; a slice's spare places count too). A statement '..UptoSaid' is the law's where the arguments, and the package variables that the reading takes, are together of bulk at most 1048576: NARROWER than '..Said'. Prove '..Said' where nothing that the law and all that it calls make is longer than what came in: it says more and counts as full. Else prove '..UptoSaid'. A law counts once. -/
mutual
def uptoBulk {H : Type} : DataW H → Nat
  | .lit (.string bytes) => bytes.length + 1
  | .lit _ => 1
  | .nil => 1
  | .ptr d => uptoBulk d + 1
  | .slice elems spare => uptoBulkAll elems + uptoBulkAll spare + 1
  | .agg parts => uptoBulkAll parts + 1
  | .iface _ d => uptoBulk d + 1
  | .map entries => uptoBulkEntries entries + 1
  | .held _ => 1
def uptoBulkAll {H : Type} : List (DataW H) → Nat
  | [] => 0
  | d :: r => uptoBulk d + uptoBulkAll r
def uptoBulkEntries {H : Type} : List (Lit × DataW H) → Nat
  | [] => 0
  | x :: r => uptoBulkEntry x + uptoBulkEntries r
def uptoBulkEntry {H : Type} : Lit × DataW H → Nat
  | (.string bytes, d) => bytes.length + uptoBulk d + 1
  | (_, d) => uptoBulk d + 1
 end
def uptoSmall : (H : Type) → List (DataW H) → Bool := fun _ ds => decide (uptoBulkAll ds ≤ 1048576)
def OpenSpec.upto (s : _root_.Go.ChangeSpec) : _root_.Go.OpenSpec := { _root_.Go.OpenSpec.ofChange s with cond := some uptoSmall }

/-- 'laws.FnExactNoteOk', WHERE WHAT IT READS IS OF BULK AT MOST 1048576: true; the input reads as it did. -/
def fnExactNoteOkUptoRow : OpenClaim := { program := "ytlahjaakegdigaa", sum := "115cc001a652f339f92dce91d3a822a928ddbaaff1eff717584c9e5de3adb183", func := "loop.example/g00834/laws.FnExactNoteOk", spec := "fnExactNoteOk", apart := false, narrowed := true }
def FnExactNoteOkUptoSaid : Prop := fnExactNoteOkUptoRow.holds Try.pinned (OpenSpec.upto fnExactNoteOkSpec)

/-- 'laws.FnExactNotesOk', WHERE WHAT IT READS IS OF BULK AT MOST 1048576: true; the input reads as it did. -/
def fnExactNotesOkUptoRow : OpenClaim := { program := "ytlahjaakegdigaa", sum := "115cc001a652f339f92dce91d3a822a928ddbaaff1eff717584c9e5de3adb183", func := "loop.example/g00834/laws.FnExactNotesOk", spec := "fnExactNotesOk", apart := false, narrowed := true }
def FnExactNotesOkUptoSaid : Prop := fnExactNotesOkUptoRow.holds Try.pinned (OpenSpec.upto fnExactNotesOkSpec)

/-- 'laws.FnExactCanonNotes', WHERE WHAT IT READS IS OF BULK AT MOST 1048576: true; the input reads as it did. -/
def fnExactCanonNotesUptoRow : OpenClaim := { program := "ytlahjaakegdigaa", sum := "115cc001a652f339f92dce91d3a822a928ddbaaff1eff717584c9e5de3adb183", func := "loop.example/g00834/laws.FnExactCanonNotes", spec := "fnExactCanonNotes", unfollowed := true, recurses := true, apart := false, narrowed := true }
def FnExactCanonNotesUptoSaid : Prop := fnExactCanonNotesUptoRow.holds Try.pinned (OpenSpec.upto fnExactCanonNotesSpec)

/-- 'laws.FnExactApplyNotes', WHERE WHAT IT READS IS OF BULK AT MOST 1048576: true; the input reads as it did. -/
def fnExactApplyNotesUptoRow : OpenClaim := { program := "ytlahjaakegdigaa", sum := "115cc001a652f339f92dce91d3a822a928ddbaaff1eff717584c9e5de3adb183", func := "loop.example/g00834/laws.FnExactApplyNotes", spec := "fnExactApplyNotes", apart := false, narrowed := true }
def FnExactApplyNotesUptoSaid : Prop := fnExactApplyNotesUptoRow.holds Try.pinned (OpenSpec.upto fnExactApplyNotesSpec)

/-- 'laws.FnExactSerialOf', WHERE WHAT IT READS IS OF BULK AT MOST 1048576: true; the input reads as it did. -/
def fnExactSerialOfUptoRow : OpenClaim := { program := "ytlahjaakegdigaa", sum := "115cc001a652f339f92dce91d3a822a928ddbaaff1eff717584c9e5de3adb183", func := "loop.example/g00834/laws.FnExactSerialOf", spec := "fnExactSerialOf", apart := false, narrowed := true }
def FnExactSerialOfUptoSaid : Prop := fnExactSerialOfUptoRow.holds Try.pinned (OpenSpec.upto fnExactSerialOfSpec)

/-- 'laws.FnExactCorrections', WHERE WHAT IT READS IS OF BULK AT MOST 1048576: true; the input reads as it did. -/
def fnExactCorrectionsUptoRow : OpenClaim := { program := "ytlahjaakegdigaa", sum := "115cc001a652f339f92dce91d3a822a928ddbaaff1eff717584c9e5de3adb183", func := "loop.example/g00834/laws.FnExactCorrections", spec := "fnExactCorrections", apart := false, narrowed := true }
def FnExactCorrectionsUptoSaid : Prop := fnExactCorrectionsUptoRow.holds Try.pinned (OpenSpec.upto fnExactCorrectionsSpec)

/-- 'laws.FnExactUpTo', WHERE WHAT IT READS IS OF BULK AT MOST 1048576: true; the input reads as it did. -/
def fnExactUpToUptoRow : OpenClaim := { program := "ytlahjaakegdigaa", sum := "115cc001a652f339f92dce91d3a822a928ddbaaff1eff717584c9e5de3adb183", func := "loop.example/g00834/laws.FnExactUpTo", spec := "fnExactUpTo", apart := false, narrowed := true }
def FnExactUpToUptoSaid : Prop := fnExactUpToUptoRow.holds Try.pinned (OpenSpec.upto fnExactUpToSpec)

/-- 'laws.FnExactSameNotes', WHERE WHAT IT READS IS OF BULK AT MOST 1048576: true; the input reads as it did. -/
def fnExactSameNotesUptoRow : OpenClaim := { program := "ytlahjaakegdigaa", sum := "115cc001a652f339f92dce91d3a822a928ddbaaff1eff717584c9e5de3adb183", func := "loop.example/g00834/laws.FnExactSameNotes", spec := "fnExactSameNotes", apart := false, narrowed := true }
def FnExactSameNotesUptoSaid : Prop := fnExactSameNotesUptoRow.holds Try.pinned (OpenSpec.upto fnExactSameNotesSpec)

end Rows
end Go.Proofs.Ytlahjaakegdigaa
