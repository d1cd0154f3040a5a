/-
  No cell of these rows narrows 'for every input' (looked for: loops, veiled, ifaces, maps, wideKeys, modest, calm, conditions, laid).
  DERIVED. THE GIVEN ROWS OF THIS SEAT. 4 by the template 'for every input the law returns true; each argument reads behind the call as it read before'; 0 by the template 'total and deterministic' (their statements: YteciobkjfmddcaaGreatTotals.lean).
  GIVEN WITH THE SEED: the statements are not yours to turn. If you find one false, say at which input.
  Laid BY PROGRAM, IN A SANDBOX (cutbox-rows.mjs): the forced cells as the released guide's own fill.sh prints them over the translation 7ca59684635f55e2… (all of the seat's roots in one cut). By AI agents, Wed Nov 11 2026. No macro, syntax, notation, axiom, sorry.
-/
import Derived.Test.YteciobkjfmddcaaGreatChecked
import GoSem.Claim
import GoSem.ClaimJoined
import GoSem.ClaimMapViews
import Derived.JoinedTies
import Derived.KernelRfl
namespace Go.Proofs.YteciobkjfmddcaaGreat
/- THE CELL 'sum', in the pinned program and in every row, IS THE sha256 OF THE DUMP (.gsa) THAT YteciobkjfmddcaaGreatProg.lean LOADS. Nothing in Lean hashes anything: it is a label: what it is worth is what the hold of that sum in a sandbox is worth. -/
noncomputable def Tryz.pinned : Pinned := { name := "yteciobkjfmddcaagreat", sum := "7ca59684635f55e27e5def26dba388028f6d962f9e3bc086c2bfa5704cf3be89", checked := Tryz.checked }
namespace Rows
def none {H : Type} : Left H := { results := [], args := [] }

/-- 'laws.FnSplits': WHATEVER THE INPUT: true; the input reads as it did. -/
def fnSplitsSpec : ChangeSpec := { name := "fnSplits", fn := fun _ => fun
  | [d] => { results := [.lit (.bool true)], args := [d] }
  | _ => none }
def fnSplitsRow : OpenClaim := { program := "yteciobkjfmddcaagreat", sum := "7ca59684635f55e27e5def26dba388028f6d962f9e3bc086c2bfa5704cf3be89", func := "loop.example/g00834/laws.FnSplits", spec := "fnSplits", unfollowed := true, recurses := true, apart := false }
def FnSplitsSaid : Prop := fnSplitsRow.holds Tryz.pinned (OpenSpec.ofChange fnSplitsSpec)

/-- ITS FALSE NEIGHBOUR: 'it returns false'. Refute it at one input. -/
def fnSplitsWrong : ChangeSpec := { name := "fnSplits", fn := fun _ => fun
  | [d] => { results := [.lit (.bool false)], args := [d] }
  | _ => none }
def FnSplitsWrongFalsely : Prop := fnSplitsRow.holds Tryz.pinned (OpenSpec.ofChange fnSplitsWrong)

/-- 'laws.FnExactReasonFor': WHATEVER THE INPUT: true; the input reads as it did. -/
def fnExactReasonForSpec : ChangeSpec := { name := "fnExactReasonFor", fn := fun _ => fun
  | [d1, d2, d3] => { results := [.lit (.bool true)], args := [d1, d2, d3] }
  | _ => none }
def fnExactReasonForRow : OpenClaim := { program := "yteciobkjfmddcaagreat", sum := "7ca59684635f55e27e5def26dba388028f6d962f9e3bc086c2bfa5704cf3be89", func := "loop.example/g00834/laws.FnExactReasonFor", spec := "fnExactReasonFor", unfollowed := true, recurses := true, apart := false }
def FnExactReasonForSaid : Prop := fnExactReasonForRow.holds Tryz.pinned (OpenSpec.ofChange fnExactReasonForSpec)

/-- ITS FALSE NEIGHBOUR: 'it returns false'. Refute it at one input. -/
def fnExactReasonForWrong : ChangeSpec := { name := "fnExactReasonFor", fn := fun _ => fun
  | [d1, d2, d3] => { results := [.lit (.bool false)], args := [d1, d2, d3] }
  | _ => none }
def FnExactReasonForWrongFalsely : Prop := fnExactReasonForRow.holds Tryz.pinned (OpenSpec.ofChange fnExactReasonForWrong)

/-- 'laws.FnExactStandsAbove': WHATEVER THE INPUT: true; the input reads as it did. -/
def fnExactStandsAboveSpec : ChangeSpec := { name := "fnExactStandsAbove", fn := fun _ => fun
  | [d1, d2, d3] => { results := [.lit (.bool true)], args := [d1, d2, d3] }
  | _ => none }
def fnExactStandsAboveRow : OpenClaim := { program := "yteciobkjfmddcaagreat", sum := "7ca59684635f55e27e5def26dba388028f6d962f9e3bc086c2bfa5704cf3be89", func := "loop.example/g00834/laws.FnExactStandsAbove", spec := "fnExactStandsAbove", unfollowed := true, recurses := true, apart := false }
def FnExactStandsAboveSaid : Prop := fnExactStandsAboveRow.holds Tryz.pinned (OpenSpec.ofChange fnExactStandsAboveSpec)

/-- ITS FALSE NEIGHBOUR: 'it returns false'. Refute it at one input. -/
def fnExactStandsAboveWrong : ChangeSpec := { name := "fnExactStandsAbove", fn := fun _ => fun
  | [d1, d2, d3] => { results := [.lit (.bool false)], args := [d1, d2, d3] }
  | _ => none }
def FnExactStandsAboveWrongFalsely : Prop := fnExactStandsAboveRow.holds Tryz.pinned (OpenSpec.ofChange fnExactStandsAboveWrong)

/-- 'laws.FnExactStepsOf': WHATEVER THE INPUT: true; the input reads as it did. -/
def fnExactStepsOfSpec : ChangeSpec := { name := "fnExactStepsOf", fn := fun _ => fun
  | [d1, d2] => { results := [.lit (.bool true)], args := [d1, d2] }
  | _ => none }
def fnExactStepsOfRow : OpenClaim := { program := "yteciobkjfmddcaagreat", sum := "7ca59684635f55e27e5def26dba388028f6d962f9e3bc086c2bfa5704cf3be89", func := "loop.example/g00834/laws.FnExactStepsOf", spec := "fnExactStepsOf", unfollowed := true, recurses := true, apart := false }
def FnExactStepsOfSaid : Prop := fnExactStepsOfRow.holds Tryz.pinned (OpenSpec.ofChange fnExactStepsOfSpec)

/-- ITS FALSE NEIGHBOUR: 'it returns false'. Refute it at one input. -/
def fnExactStepsOfWrong : ChangeSpec := { name := "fnExactStepsOf", fn := fun _ => fun
  | [d1, d2] => { results := [.lit (.bool false)], args := [d1, d2] }
  | _ => none }
def FnExactStepsOfWrongFalsely : Prop := fnExactStepsOfRow.holds Tryz.pinned (OpenSpec.ofChange fnExactStepsOfWrong)

/- THE SECOND FORM. 'bulk': how many values and letters a reading holds, each counted each time it is reached (what is shared counts as often as it is met; a slice's spare places count too). A statement '..UptoSaid' is the law's where the arguments, and the package variables that the reading takes, are together of bulk at most 1048576: NARROWER than '..Said'. Prove '..Said' where nothing that the law and all that it calls make is longer than what came in: it says more and counts as full. Else prove '..UptoSaid'. A law counts once. -/
mutual
def uptoBulk {H : Type} : DataW H → Nat
  | .lit (.string bytes) => bytes.length + 1
  | .lit _ => 1
  | .nil => 1
  | .ptr d => uptoBulk d + 1
  | .slice elems spare => uptoBulkAll elems + uptoBulkAll spare + 1
  | .agg parts => uptoBulkAll parts + 1
  | .iface _ d => uptoBulk d + 1
  | .map entries => uptoBulkEntries entries + 1
  | .held _ => 1
def uptoBulkAll {H : Type} : List (DataW H) → Nat
  | [] => 0
  | d :: r => uptoBulk d + uptoBulkAll r
def uptoBulkEntries {H : Type} : List (Lit × DataW H) → Nat
  | [] => 0
  | x :: r => uptoBulkEntry x + uptoBulkEntries r
def uptoBulkEntry {H : Type} : Lit × DataW H → Nat
  | (.string bytes, d) => bytes.length + uptoBulk d + 1
  | (_, d) => uptoBulk d + 1
 end
def uptoSmall : (H : Type) → List (DataW H) → Bool := fun _ ds => decide (uptoBulkAll ds ≤ 1048576)
def OpenSpec.upto (s : _root_.Go.ChangeSpec) : _root_.Go.OpenSpec := { _root_.Go.OpenSpec.ofChange s with cond := some uptoSmall }

/-- 'laws.FnSplits', WHERE WHAT IT READS IS OF BULK AT MOST 1048576: true; the input reads as it did. -/
def fnSplitsUptoRow : OpenClaim := { program := "yteciobkjfmddcaagreat", sum := "7ca59684635f55e27e5def26dba388028f6d962f9e3bc086c2bfa5704cf3be89", func := "loop.example/g00834/laws.FnSplits", spec := "fnSplits", unfollowed := true, recurses := true, apart := false, narrowed := true }
def FnSplitsUptoSaid : Prop := fnSplitsUptoRow.holds Tryz.pinned (OpenSpec.upto fnSplitsSpec)

/-- 'laws.FnExactReasonFor', WHERE WHAT IT READS IS OF BULK AT MOST 1048576: true; the input reads as it did. -/
def fnExactReasonForUptoRow : OpenClaim := { program := "yteciobkjfmddcaagreat", sum := "7ca59684635f55e27e5def26dba388028f6d962f9e3bc086c2bfa5704cf3be89", func := "loop.example/g00834/laws.FnExactReasonFor", spec := "fnExactReasonFor", unfollowed := true, recurses := true, apart := false, narrowed := true }
def FnExactReasonForUptoSaid : Prop := fnExactReasonForUptoRow.holds Tryz.pinned (OpenSpec.upto fnExactReasonForSpec)

/-- 'laws.FnExactStandsAbove', WHERE WHAT IT READS IS OF BULK AT MOST 1048576: true; the input reads as it did. -/
def fnExactStandsAboveUptoRow : OpenClaim := { program := "yteciobkjfmddcaagreat", sum := "7ca59684635f55e27e5def26dba388028f6d962f9e3bc086c2bfa5704cf3be89", func := "loop.example/g00834/laws.FnExactStandsAbove", spec := "fnExactStandsAbove", unfollowed := true, recurses := true, apart := false, narrowed := true }
def FnExactStandsAboveUptoSaid : Prop := fnExactStandsAboveUptoRow.holds Tryz.pinned (OpenSpec.upto fnExactStandsAboveSpec)

/-- 'laws.FnExactStepsOf', WHERE WHAT IT READS IS OF BULK AT MOST 1048576: true; the input reads as it did. -/
def fnExactStepsOfUptoRow : OpenClaim := { program := "yteciobkjfmddcaagreat", sum := "7ca59684635f55e27e5def26dba388028f6d962f9e3bc086c2bfa5704cf3be89", func := "loop.example/g00834/laws.FnExactStepsOf", spec := "fnExactStepsOf", unfollowed := true, recurses := true, apart := false, narrowed := true }
def FnExactStepsOfUptoSaid : Prop := fnExactStepsOfUptoRow.holds Tryz.pinned (OpenSpec.upto fnExactStepsOfSpec)

end Rows
end Go.Proofs.YteciobkjfmddcaaGreat
