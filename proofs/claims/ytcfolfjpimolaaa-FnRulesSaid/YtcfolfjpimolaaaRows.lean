/-
  No cell of these rows narrows 'for every input' (looked for: loops, veiled, ifaces, maps, wideKeys, modest, calm, conditions, laid).
  DERIVED. THE GIVEN ROWS OF THIS SEAT. 9 by the template 'for every input the law returns true; each argument reads behind the call as it read before'; 0 by the template 'total and deterministic' (their statements: YtcfolfjpimolaaaTotals.lean).
  GIVEN WITH THE SEED: the statements are not yours to turn. If you find one false, say at which input.
  Laid BY PROGRAM, IN A SANDBOX (cutbox-rows.mjs): the forced cells as the released guide's own fill.sh prints them over the translation 2d632f0e0650f262… (all of the seat's roots in one cut). By AI agents, Wed Nov 11 2026. No macro, syntax, notation, axiom, sorry.
-/
import Derived.Test.YtcfolfjpimolaaaChecked
import GoSem.Claim
import GoSem.ClaimJoined
import GoSem.ClaimMapViews
import Derived.JoinedTies
import Derived.KernelRfl
namespace Go.Proofs.Ytcfolfjpimolaaa
/- THE CELL 'sum', in the pinned program and in every row, IS THE sha256 OF THE DUMP (.gsa) THAT YtcfolfjpimolaaaProg.lean LOADS. Nothing in Lean hashes anything: it is a label: what it is worth is what the hold of that sum in a sandbox is worth. -/
noncomputable def Try.pinned : Pinned := { name := "ytcfolfjpimolaaa", sum := "2d632f0e0650f2627b40e00aaecbccac14d812db716622a39c7e04c13e1dd985", checked := Try.checked }
namespace Rows
def none {H : Type} : Left H := { results := [], args := [] }

/-- 'laws.FnRules': WHATEVER THE INPUT: true; the input reads as it did. -/
def fnRulesSpec : ChangeSpec := { name := "fnRules", fn := fun _ => fun
  | [d] => { results := [.lit (.bool true)], args := [d] }
  | _ => none }
def fnRulesRow : OpenClaim := { program := "ytcfolfjpimolaaa", sum := "2d632f0e0650f2627b40e00aaecbccac14d812db716622a39c7e04c13e1dd985", func := "loop.example/g00834/laws.FnRules", spec := "fnRules", unfollowed := true, recurses := true, apart := false }
def FnRulesSaid : Prop := fnRulesRow.holds Try.pinned (OpenSpec.ofChange fnRulesSpec)

/-- ITS FALSE NEIGHBOUR: 'it returns false'. Refute it at one input. -/
def fnRulesWrong : ChangeSpec := { name := "fnRules", fn := fun _ => fun
  | [d] => { results := [.lit (.bool false)], args := [d] }
  | _ => none }
def FnRulesWrongFalsely : Prop := fnRulesRow.holds Try.pinned (OpenSpec.ofChange fnRulesWrong)

/-- 'laws.FnExactKeyName': WHATEVER THE INPUT: true; the input reads as it did. -/
def fnExactKeyNameSpec : ChangeSpec := { name := "fnExactKeyName", fn := fun _ => fun
  | [d] => { results := [.lit (.bool true)], args := [d] }
  | _ => none }
def fnExactKeyNameRow : OpenClaim := { program := "ytcfolfjpimolaaa", sum := "2d632f0e0650f2627b40e00aaecbccac14d812db716622a39c7e04c13e1dd985", func := "loop.example/g00834/laws.FnExactKeyName", spec := "fnExactKeyName", apart := false }
def FnExactKeyNameSaid : Prop := fnExactKeyNameRow.holds Try.pinned (OpenSpec.ofChange fnExactKeyNameSpec)

/-- ITS FALSE NEIGHBOUR: 'it returns false'. Refute it at one input. -/
def fnExactKeyNameWrong : ChangeSpec := { name := "fnExactKeyName", fn := fun _ => fun
  | [d] => { results := [.lit (.bool false)], args := [d] }
  | _ => none }
def FnExactKeyNameWrongFalsely : Prop := fnExactKeyNameRow.holds Try.pinned (OpenSpec.ofChange fnExactKeyNameWrong)

/-- 'laws.FnExactKeyNamed': WHATEVER THE INPUT: true; the input reads as it did. -/
def fnExactKeyNamedSpec : ChangeSpec := { name := "fnExactKeyNamed", fn := fun _ => fun
  | [d] => { results := [.lit (.bool true)], args := [d] }
  | _ => none }
def fnExactKeyNamedRow : OpenClaim := { program := "ytcfolfjpimolaaa", sum := "2d632f0e0650f2627b40e00aaecbccac14d812db716622a39c7e04c13e1dd985", func := "loop.example/g00834/laws.FnExactKeyNamed", spec := "fnExactKeyNamed", apart := false }
def FnExactKeyNamedSaid : Prop := fnExactKeyNamedRow.holds Try.pinned (OpenSpec.ofChange fnExactKeyNamedSpec)

/-- ITS FALSE NEIGHBOUR: 'it returns false'. Refute it at one input. -/
def fnExactKeyNamedWrong : ChangeSpec := { name := "fnExactKeyNamed", fn := fun _ => fun
  | [d] => { results := [.lit (.bool false)], args := [d] }
  | _ => none }
def FnExactKeyNamedWrongFalsely : Prop := fnExactKeyNamedRow.holds Try.pinned (OpenSpec.ofChange fnExactKeyNamedWrong)

/-- 'laws.FnExactIsMutual': WHATEVER THE INPUT: true; the input reads as it did. -/
def fnExactIsMutualSpec : ChangeSpec := { name := "fnExactIsMutual", fn := fun _ => fun
  | [d] => { results := [.lit (.bool true)], args := [d] }
  | _ => none }
def fnExactIsMutualRow : OpenClaim := { program := "ytcfolfjpimolaaa", sum := "2d632f0e0650f2627b40e00aaecbccac14d812db716622a39c7e04c13e1dd985", func := "loop.example/g00834/laws.FnExactIsMutual", spec := "fnExactIsMutual", apart := false }
def FnExactIsMutualSaid : Prop := fnExactIsMutualRow.holds Try.pinned (OpenSpec.ofChange fnExactIsMutualSpec)

/-- ITS FALSE NEIGHBOUR: 'it returns false'. Refute it at one input. -/
def fnExactIsMutualWrong : ChangeSpec := { name := "fnExactIsMutual", fn := fun _ => fun
  | [d] => { results := [.lit (.bool false)], args := [d] }
  | _ => none }
def FnExactIsMutualWrongFalsely : Prop := fnExactIsMutualRow.holds Try.pinned (OpenSpec.ofChange fnExactIsMutualWrong)

/-- 'laws.FnExactRulesOk': WHATEVER THE INPUT: true; the input reads as it did. -/
def fnExactRulesOkSpec : ChangeSpec := { name := "fnExactRulesOk", fn := fun _ => fun
  | [d] => { results := [.lit (.bool true)], args := [d] }
  | _ => none }
def fnExactRulesOkRow : OpenClaim := { program := "ytcfolfjpimolaaa", sum := "2d632f0e0650f2627b40e00aaecbccac14d812db716622a39c7e04c13e1dd985", func := "loop.example/g00834/laws.FnExactRulesOk", spec := "fnExactRulesOk", apart := false }
def FnExactRulesOkSaid : Prop := fnExactRulesOkRow.holds Try.pinned (OpenSpec.ofChange fnExactRulesOkSpec)

/-- ITS FALSE NEIGHBOUR: 'it returns false'. Refute it at one input. -/
def fnExactRulesOkWrong : ChangeSpec := { name := "fnExactRulesOk", fn := fun _ => fun
  | [d] => { results := [.lit (.bool false)], args := [d] }
  | _ => none }
def FnExactRulesOkWrongFalsely : Prop := fnExactRulesOkRow.holds Try.pinned (OpenSpec.ofChange fnExactRulesOkWrong)

/-- 'laws.FnExactIsDecisive': WHATEVER THE INPUT: true; the input reads as it did. -/
def fnExactIsDecisiveSpec : ChangeSpec := { name := "fnExactIsDecisive", fn := fun _ => fun
  | [d] => { results := [.lit (.bool true)], args := [d] }
  | _ => none }
def fnExactIsDecisiveRow : OpenClaim := { program := "ytcfolfjpimolaaa", sum := "2d632f0e0650f2627b40e00aaecbccac14d812db716622a39c7e04c13e1dd985", func := "loop.example/g00834/laws.FnExactIsDecisive", spec := "fnExactIsDecisive", apart := false }
def FnExactIsDecisiveSaid : Prop := fnExactIsDecisiveRow.holds Try.pinned (OpenSpec.ofChange fnExactIsDecisiveSpec)

/-- ITS FALSE NEIGHBOUR: 'it returns false'. Refute it at one input. -/
def fnExactIsDecisiveWrong : ChangeSpec := { name := "fnExactIsDecisive", fn := fun _ => fun
  | [d] => { results := [.lit (.bool false)], args := [d] }
  | _ => none }
def FnExactIsDecisiveWrongFalsely : Prop := fnExactIsDecisiveRow.holds Try.pinned (OpenSpec.ofChange fnExactIsDecisiveWrong)

/-- 'laws.FnExactFaultOf': WHATEVER THE INPUT: true; the input reads as it did. -/
def fnExactFaultOfSpec : ChangeSpec := { name := "fnExactFaultOf", fn := fun _ => fun
  | [d] => { results := [.lit (.bool true)], args := [d] }
  | _ => none }
def fnExactFaultOfRow : OpenClaim := { program := "ytcfolfjpimolaaa", sum := "2d632f0e0650f2627b40e00aaecbccac14d812db716622a39c7e04c13e1dd985", func := "loop.example/g00834/laws.FnExactFaultOf", spec := "fnExactFaultOf", unfollowed := true, recurses := true, apart := false }
def FnExactFaultOfSaid : Prop := fnExactFaultOfRow.holds Try.pinned (OpenSpec.ofChange fnExactFaultOfSpec)

/-- ITS FALSE NEIGHBOUR: 'it returns false'. Refute it at one input. -/
def fnExactFaultOfWrong : ChangeSpec := { name := "fnExactFaultOf", fn := fun _ => fun
  | [d] => { results := [.lit (.bool false)], args := [d] }
  | _ => none }
def FnExactFaultOfWrongFalsely : Prop := fnExactFaultOfRow.holds Try.pinned (OpenSpec.ofChange fnExactFaultOfWrong)

/-- 'laws.FnExactUsualRules': WHATEVER THE INPUT: true; the input reads as it did. -/
def fnExactUsualRulesSpec : ChangeSpec := { name := "fnExactUsualRules", fn := fun _ => fun
  | [] => { results := [.lit (.bool true)], args := [] }
  | _ => none }
def fnExactUsualRulesRow : OpenClaim := { program := "ytcfolfjpimolaaa", sum := "2d632f0e0650f2627b40e00aaecbccac14d812db716622a39c7e04c13e1dd985", func := "loop.example/g00834/laws.FnExactUsualRules", spec := "fnExactUsualRules", apart := false }
def FnExactUsualRulesSaid : Prop := fnExactUsualRulesRow.holds Try.pinned (OpenSpec.ofChange fnExactUsualRulesSpec)

/-- ITS FALSE NEIGHBOUR: 'it returns false'. Refute it at one input. -/
def fnExactUsualRulesWrong : ChangeSpec := { name := "fnExactUsualRules", fn := fun _ => fun
  | [] => { results := [.lit (.bool false)], args := [] }
  | _ => none }
def FnExactUsualRulesWrongFalsely : Prop := fnExactUsualRulesRow.holds Try.pinned (OpenSpec.ofChange fnExactUsualRulesWrong)

/-- 'laws.FnExactSameRules': WHATEVER THE INPUT: true; the input reads as it did. -/
def fnExactSameRulesSpec : ChangeSpec := { name := "fnExactSameRules", fn := fun _ => fun
  | [d1, d2] => { results := [.lit (.bool true)], args := [d1, d2] }
  | _ => none }
def fnExactSameRulesRow : OpenClaim := { program := "ytcfolfjpimolaaa", sum := "2d632f0e0650f2627b40e00aaecbccac14d812db716622a39c7e04c13e1dd985", func := "loop.example/g00834/laws.FnExactSameRules", spec := "fnExactSameRules", apart := false }
def FnExactSameRulesSaid : Prop := fnExactSameRulesRow.holds Try.pinned (OpenSpec.ofChange fnExactSameRulesSpec)

/-- ITS FALSE NEIGHBOUR: 'it returns false'. Refute it at one input. -/
def fnExactSameRulesWrong : ChangeSpec := { name := "fnExactSameRules", fn := fun _ => fun
  | [d1, d2] => { results := [.lit (.bool false)], args := [d1, d2] }
  | _ => none }
def FnExactSameRulesWrongFalsely : Prop := fnExactSameRulesRow.holds Try.pinned (OpenSpec.ofChange fnExactSameRulesWrong)

/- THE SECOND FORM. 'bulk': how many values and letters a reading holds, each counted each time it is reached (what is shared counts as often as it is met; a slice's spare places count too). A statement '..UptoSaid' is the law's where the arguments, and the package variables that the reading takes, are together of bulk at most 1048576: NARROWER than '..Said'. Prove '..Said' where nothing that the law and all that it calls make is longer than what came in: it says more and counts as full. Else prove '..UptoSaid'. A law counts once. -/
mutual
def uptoBulk {H : Type} : DataW H → Nat
  | .lit (.string bytes) => bytes.length + 1
  | .lit _ => 1
  | .nil => 1
  | .ptr d => uptoBulk d + 1
  | .slice elems spare => uptoBulkAll elems + uptoBulkAll spare + 1
  | .agg parts => uptoBulkAll parts + 1
  | .iface _ d => uptoBulk d + 1
  | .map entries => uptoBulkEntries entries + 1
  | .held _ => 1
def uptoBulkAll {H : Type} : List (DataW H) → Nat
  | [] => 0
  | d :: r => uptoBulk d + uptoBulkAll r
def uptoBulkEntries {H : Type} : List (Lit × DataW H) → Nat
  | [] => 0
  | x :: r => uptoBulkEntry x + uptoBulkEntries r
def uptoBulkEntry {H : Type} : Lit × DataW H → Nat
  | (.string bytes, d) => bytes.length + uptoBulk d + 1
  | (_, d) => uptoBulk d + 1
 end
def uptoSmall : (H : Type) → List (DataW H) → Bool := fun _ ds => decide (uptoBulkAll ds ≤ 1048576)
def OpenSpec.upto (s : _root_.Go.ChangeSpec) : _root_.Go.OpenSpec := { _root_.Go.OpenSpec.ofChange s with cond := some uptoSmall }

/-- 'laws.FnRules', WHERE WHAT IT READS IS OF BULK AT MOST 1048576: true; the input reads as it did. -/
def fnRulesUptoRow : OpenClaim := { program := "ytcfolfjpimolaaa", sum := "2d632f0e0650f2627b40e00aaecbccac14d812db716622a39c7e04c13e1dd985", func := "loop.example/g00834/laws.FnRules", spec := "fnRules", unfollowed := true, recurses := true, apart := false, narrowed := true }
def FnRulesUptoSaid : Prop := fnRulesUptoRow.holds Try.pinned (OpenSpec.upto fnRulesSpec)

/-- 'laws.FnExactKeyName', WHERE WHAT IT READS IS OF BULK AT MOST 1048576: true; the input reads as it did. -/
def fnExactKeyNameUptoRow : OpenClaim := { program := "ytcfolfjpimolaaa", sum := "2d632f0e0650f2627b40e00aaecbccac14d812db716622a39c7e04c13e1dd985", func := "loop.example/g00834/laws.FnExactKeyName", spec := "fnExactKeyName", apart := false, narrowed := true }
def FnExactKeyNameUptoSaid : Prop := fnExactKeyNameUptoRow.holds Try.pinned (OpenSpec.upto fnExactKeyNameSpec)

/-- 'laws.FnExactKeyNamed', WHERE WHAT IT READS IS OF BULK AT MOST 1048576: true; the input reads as it did. -/
def fnExactKeyNamedUptoRow : OpenClaim := { program := "ytcfolfjpimolaaa", sum := "2d632f0e0650f2627b40e00aaecbccac14d812db716622a39c7e04c13e1dd985", func := "loop.example/g00834/laws.FnExactKeyNamed", spec := "fnExactKeyNamed", apart := false, narrowed := true }
def FnExactKeyNamedUptoSaid : Prop := fnExactKeyNamedUptoRow.holds Try.pinned (OpenSpec.upto fnExactKeyNamedSpec)

/-- 'laws.FnExactIsMutual', WHERE WHAT IT READS IS OF BULK AT MOST 1048576: true; the input reads as it did. -/
def fnExactIsMutualUptoRow : OpenClaim := { program := "ytcfolfjpimolaaa", sum := "2d632f0e0650f2627b40e00aaecbccac14d812db716622a39c7e04c13e1dd985", func := "loop.example/g00834/laws.FnExactIsMutual", spec := "fnExactIsMutual", apart := false, narrowed := true }
def FnExactIsMutualUptoSaid : Prop := fnExactIsMutualUptoRow.holds Try.pinned (OpenSpec.upto fnExactIsMutualSpec)

/-- 'laws.FnExactRulesOk', WHERE WHAT IT READS IS OF BULK AT MOST 1048576: true; the input reads as it did. -/
def fnExactRulesOkUptoRow : OpenClaim := { program := "ytcfolfjpimolaaa", sum := "2d632f0e0650f2627b40e00aaecbccac14d812db716622a39c7e04c13e1dd985", func := "loop.example/g00834/laws.FnExactRulesOk", spec := "fnExactRulesOk", apart := false, narrowed := true }
def FnExactRulesOkUptoSaid : Prop := fnExactRulesOkUptoRow.holds Try.pinned (OpenSpec.upto fnExactRulesOkSpec)

/-- 'laws.FnExactIsDecisive', WHERE WHAT IT READS IS OF BULK AT MOST 1048576: true; the input reads as it did. -/
def fnExactIsDecisiveUptoRow : OpenClaim := { program := "ytcfolfjpimolaaa", sum := "2d632f0e0650f2627b40e00aaecbccac14d812db716622a39c7e04c13e1dd985", func := "loop.example/g00834/laws.FnExactIsDecisive", spec := "fnExactIsDecisive", apart := false, narrowed := true }
def FnExactIsDecisiveUptoSaid : Prop := fnExactIsDecisiveUptoRow.holds Try.pinned (OpenSpec.upto fnExactIsDecisiveSpec)

/-- 'laws.FnExactFaultOf', WHERE WHAT IT READS IS OF BULK AT MOST 1048576: true; the input reads as it did. -/
def fnExactFaultOfUptoRow : OpenClaim := { program := "ytcfolfjpimolaaa", sum := "2d632f0e0650f2627b40e00aaecbccac14d812db716622a39c7e04c13e1dd985", func := "loop.example/g00834/laws.FnExactFaultOf", spec := "fnExactFaultOf", unfollowed := true, recurses := true, apart := false, narrowed := true }
def FnExactFaultOfUptoSaid : Prop := fnExactFaultOfUptoRow.holds Try.pinned (OpenSpec.upto fnExactFaultOfSpec)

/-- 'laws.FnExactUsualRules', WHERE WHAT IT READS IS OF BULK AT MOST 1048576: true; the input reads as it did. -/
def fnExactUsualRulesUptoRow : OpenClaim := { program := "ytcfolfjpimolaaa", sum := "2d632f0e0650f2627b40e00aaecbccac14d812db716622a39c7e04c13e1dd985", func := "loop.example/g00834/laws.FnExactUsualRules", spec := "fnExactUsualRules", apart := false, narrowed := true }
def FnExactUsualRulesUptoSaid : Prop := fnExactUsualRulesUptoRow.holds Try.pinned (OpenSpec.upto fnExactUsualRulesSpec)

/-- 'laws.FnExactSameRules', WHERE WHAT IT READS IS OF BULK AT MOST 1048576: true; the input reads as it did. -/
def fnExactSameRulesUptoRow : OpenClaim := { program := "ytcfolfjpimolaaa", sum := "2d632f0e0650f2627b40e00aaecbccac14d812db716622a39c7e04c13e1dd985", func := "loop.example/g00834/laws.FnExactSameRules", spec := "fnExactSameRules", apart := false, narrowed := true }
def FnExactSameRulesUptoSaid : Prop := fnExactSameRulesUptoRow.holds Try.pinned (OpenSpec.upto fnExactSameRulesSpec)

end Rows
end Go.Proofs.Ytcfolfjpimolaaa
