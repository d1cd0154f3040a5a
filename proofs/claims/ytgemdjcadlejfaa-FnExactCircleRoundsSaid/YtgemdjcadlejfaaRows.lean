/-
  No cell of these rows narrows 'for every input' (looked for: loops, veiled, ifaces, maps, wideKeys, modest, calm, conditions, laid).
  DERIVED. THE GIVEN ROWS OF THIS SEAT. 10 by the template 'for every input the law returns true; each argument reads behind the call as it read before'; 0 by the template 'total and deterministic' (their statements: YtgemdjcadlejfaaTotals.lean).
  GIVEN WITH THE SEED: the statements are not yours to turn. If you find one false, say at which input.
  Laid BY PROGRAM, IN A SANDBOX (cutbox-rows.mjs): the forced cells as the released guide's own fill.sh prints them over the translation d32c406071901ab0… (all of the seat's roots in one cut). By AI agents, Wed Nov 11 2026. No macro, syntax, notation, axiom, sorry.
-/
import Derived.Test.YtgemdjcadlejfaaChecked
import GoSem.Claim
import GoSem.ClaimJoined
import GoSem.ClaimMapViews
import Derived.JoinedTies
import Derived.KernelRfl
namespace Go.Proofs.Ytgemdjcadlejfaa
/- THE CELL 'sum', in the pinned program and in every row, IS THE sha256 OF THE DUMP (.gsa) THAT YtgemdjcadlejfaaProg.lean LOADS. Nothing in Lean hashes anything: it is a label: what it is worth is what the hold of that sum in a sandbox is worth. -/
noncomputable def Try.pinned : Pinned := { name := "ytgemdjcadlejfaa", sum := "d32c406071901ab09b73a53079490debfa512b165aaebcbf1a56aa3012d8e758", checked := Try.checked }
namespace Rows
def none {H : Type} : Left H := { results := [], args := [] }

/-- 'laws.FnRounds': WHATEVER THE INPUT: true; the input reads as it did. -/
def fnRoundsSpec : ChangeSpec := { name := "fnRounds", fn := fun _ => fun
  | [d] => { results := [.lit (.bool true)], args := [d] }
  | _ => none }
def fnRoundsRow : OpenClaim := { program := "ytgemdjcadlejfaa", sum := "d32c406071901ab09b73a53079490debfa512b165aaebcbf1a56aa3012d8e758", func := "loop.example/g00834/laws.FnRounds", spec := "fnRounds", unfollowed := true, recurses := true, apart := false }
def FnRoundsSaid : Prop := fnRoundsRow.holds Try.pinned (OpenSpec.ofChange fnRoundsSpec)

/-- ITS FALSE NEIGHBOUR: 'it returns false'. Refute it at one input. -/
def fnRoundsWrong : ChangeSpec := { name := "fnRounds", fn := fun _ => fun
  | [d] => { results := [.lit (.bool false)], args := [d] }
  | _ => none }
def FnRoundsWrongFalsely : Prop := fnRoundsRow.holds Try.pinned (OpenSpec.ofChange fnRoundsWrong)

/-- 'laws.FnExactCircleRounds': WHATEVER THE INPUT: true; the input reads as it did. -/
def fnExactCircleRoundsSpec : ChangeSpec := { name := "fnExactCircleRounds", fn := fun _ => fun
  | [d] => { results := [.lit (.bool true)], args := [d] }
  | _ => none }
def fnExactCircleRoundsRow : OpenClaim := { program := "ytgemdjcadlejfaa", sum := "d32c406071901ab09b73a53079490debfa512b165aaebcbf1a56aa3012d8e758", func := "loop.example/g00834/laws.FnExactCircleRounds", spec := "fnExactCircleRounds", apart := false }
def FnExactCircleRoundsSaid : Prop := fnExactCircleRoundsRow.holds Try.pinned (OpenSpec.ofChange fnExactCircleRoundsSpec)

/-- ITS FALSE NEIGHBOUR: 'it returns false'. Refute it at one input. -/
def fnExactCircleRoundsWrong : ChangeSpec := { name := "fnExactCircleRounds", fn := fun _ => fun
  | [d] => { results := [.lit (.bool false)], args := [d] }
  | _ => none }
def FnExactCircleRoundsWrongFalsely : Prop := fnExactCircleRoundsRow.holds Try.pinned (OpenSpec.ofChange fnExactCircleRoundsWrong)

/-- 'laws.FnExactMirrorRounds': WHATEVER THE INPUT: true; the input reads as it did. -/
def fnExactMirrorRoundsSpec : ChangeSpec := { name := "fnExactMirrorRounds", fn := fun _ => fun
  | [d] => { results := [.lit (.bool true)], args := [d] }
  | _ => none }
def fnExactMirrorRoundsRow : OpenClaim := { program := "ytgemdjcadlejfaa", sum := "d32c406071901ab09b73a53079490debfa512b165aaebcbf1a56aa3012d8e758", func := "loop.example/g00834/laws.FnExactMirrorRounds", spec := "fnExactMirrorRounds", apart := false }
def FnExactMirrorRoundsSaid : Prop := fnExactMirrorRoundsRow.holds Try.pinned (OpenSpec.ofChange fnExactMirrorRoundsSpec)

/-- ITS FALSE NEIGHBOUR: 'it returns false'. Refute it at one input. -/
def fnExactMirrorRoundsWrong : ChangeSpec := { name := "fnExactMirrorRounds", fn := fun _ => fun
  | [d] => { results := [.lit (.bool false)], args := [d] }
  | _ => none }
def FnExactMirrorRoundsWrongFalsely : Prop := fnExactMirrorRoundsRow.holds Try.pinned (OpenSpec.ofChange fnExactMirrorRoundsWrong)

/-- 'laws.FnExactIsSchedule': WHATEVER THE INPUT: true; the input reads as it did. -/
def fnExactIsScheduleSpec : ChangeSpec := { name := "fnExactIsSchedule", fn := fun _ => fun
  | [d1, d2] => { results := [.lit (.bool true)], args := [d1, d2] }
  | _ => none }
def fnExactIsScheduleRow : OpenClaim := { program := "ytgemdjcadlejfaa", sum := "d32c406071901ab09b73a53079490debfa512b165aaebcbf1a56aa3012d8e758", func := "loop.example/g00834/laws.FnExactIsSchedule", spec := "fnExactIsSchedule", unfollowed := true, recurses := true, apart := false }
def FnExactIsScheduleSaid : Prop := fnExactIsScheduleRow.holds Try.pinned (OpenSpec.ofChange fnExactIsScheduleSpec)

/-- ITS FALSE NEIGHBOUR: 'it returns false'. Refute it at one input. -/
def fnExactIsScheduleWrong : ChangeSpec := { name := "fnExactIsSchedule", fn := fun _ => fun
  | [d1, d2] => { results := [.lit (.bool false)], args := [d1, d2] }
  | _ => none }
def FnExactIsScheduleWrongFalsely : Prop := fnExactIsScheduleRow.holds Try.pinned (OpenSpec.ofChange fnExactIsScheduleWrong)

/-- 'laws.FnExactIsRoundRobin': WHATEVER THE INPUT: true; the input reads as it did. -/
def fnExactIsRoundRobinSpec : ChangeSpec := { name := "fnExactIsRoundRobin", fn := fun _ => fun
  | [d1, d2, d3] => { results := [.lit (.bool true)], args := [d1, d2, d3] }
  | _ => none }
def fnExactIsRoundRobinRow : OpenClaim := { program := "ytgemdjcadlejfaa", sum := "d32c406071901ab09b73a53079490debfa512b165aaebcbf1a56aa3012d8e758", func := "loop.example/g00834/laws.FnExactIsRoundRobin", spec := "fnExactIsRoundRobin", unfollowed := true, recurses := true, apart := false }
def FnExactIsRoundRobinSaid : Prop := fnExactIsRoundRobinRow.holds Try.pinned (OpenSpec.ofChange fnExactIsRoundRobinSpec)

/-- ITS FALSE NEIGHBOUR: 'it returns false'. Refute it at one input. -/
def fnExactIsRoundRobinWrong : ChangeSpec := { name := "fnExactIsRoundRobin", fn := fun _ => fun
  | [d1, d2, d3] => { results := [.lit (.bool false)], args := [d1, d2, d3] }
  | _ => none }
def FnExactIsRoundRobinWrongFalsely : Prop := fnExactIsRoundRobinRow.holds Try.pinned (OpenSpec.ofChange fnExactIsRoundRobinWrong)

/-- 'laws.FnExactVenuesOf': WHATEVER THE INPUT: true; the input reads as it did. -/
def fnExactVenuesOfSpec : ChangeSpec := { name := "fnExactVenuesOf", fn := fun _ => fun
  | [d1, d2] => { results := [.lit (.bool true)], args := [d1, d2] }
  | _ => none }
def fnExactVenuesOfRow : OpenClaim := { program := "ytgemdjcadlejfaa", sum := "d32c406071901ab09b73a53079490debfa512b165aaebcbf1a56aa3012d8e758", func := "loop.example/g00834/laws.FnExactVenuesOf", spec := "fnExactVenuesOf", apart := false }
def FnExactVenuesOfSaid : Prop := fnExactVenuesOfRow.holds Try.pinned (OpenSpec.ofChange fnExactVenuesOfSpec)

/-- ITS FALSE NEIGHBOUR: 'it returns false'. Refute it at one input. -/
def fnExactVenuesOfWrong : ChangeSpec := { name := "fnExactVenuesOf", fn := fun _ => fun
  | [d1, d2] => { results := [.lit (.bool false)], args := [d1, d2] }
  | _ => none }
def FnExactVenuesOfWrongFalsely : Prop := fnExactVenuesOfRow.holds Try.pinned (OpenSpec.ofChange fnExactVenuesOfWrong)

/-- 'laws.FnExactBreaksOf': WHATEVER THE INPUT: true; the input reads as it did. -/
def fnExactBreaksOfSpec : ChangeSpec := { name := "fnExactBreaksOf", fn := fun _ => fun
  | [d1, d2] => { results := [.lit (.bool true)], args := [d1, d2] }
  | _ => none }
def fnExactBreaksOfRow : OpenClaim := { program := "ytgemdjcadlejfaa", sum := "d32c406071901ab09b73a53079490debfa512b165aaebcbf1a56aa3012d8e758", func := "loop.example/g00834/laws.FnExactBreaksOf", spec := "fnExactBreaksOf", apart := false }
def FnExactBreaksOfSaid : Prop := fnExactBreaksOfRow.holds Try.pinned (OpenSpec.ofChange fnExactBreaksOfSpec)

/-- ITS FALSE NEIGHBOUR: 'it returns false'. Refute it at one input. -/
def fnExactBreaksOfWrong : ChangeSpec := { name := "fnExactBreaksOf", fn := fun _ => fun
  | [d1, d2] => { results := [.lit (.bool false)], args := [d1, d2] }
  | _ => none }
def FnExactBreaksOfWrongFalsely : Prop := fnExactBreaksOfRow.holds Try.pinned (OpenSpec.ofChange fnExactBreaksOfWrong)

/-- 'laws.FnExactTotalBreaks': WHATEVER THE INPUT: true; the input reads as it did. -/
def fnExactTotalBreaksSpec : ChangeSpec := { name := "fnExactTotalBreaks", fn := fun _ => fun
  | [d1, d2] => { results := [.lit (.bool true)], args := [d1, d2] }
  | _ => none }
def fnExactTotalBreaksRow : OpenClaim := { program := "ytgemdjcadlejfaa", sum := "d32c406071901ab09b73a53079490debfa512b165aaebcbf1a56aa3012d8e758", func := "loop.example/g00834/laws.FnExactTotalBreaks", spec := "fnExactTotalBreaks", unfollowed := true, recurses := true, apart := false }
def FnExactTotalBreaksSaid : Prop := fnExactTotalBreaksRow.holds Try.pinned (OpenSpec.ofChange fnExactTotalBreaksSpec)

/-- ITS FALSE NEIGHBOUR: 'it returns false'. Refute it at one input. -/
def fnExactTotalBreaksWrong : ChangeSpec := { name := "fnExactTotalBreaks", fn := fun _ => fun
  | [d1, d2] => { results := [.lit (.bool false)], args := [d1, d2] }
  | _ => none }
def FnExactTotalBreaksWrongFalsely : Prop := fnExactTotalBreaksRow.holds Try.pinned (OpenSpec.ofChange fnExactTotalBreaksWrong)

/-- 'laws.FnExactGamesFrom': WHATEVER THE INPUT: true; the input reads as it did. -/
def fnExactGamesFromSpec : ChangeSpec := { name := "fnExactGamesFrom", fn := fun _ => fun
  | [d] => { results := [.lit (.bool true)], args := [d] }
  | _ => none }
def fnExactGamesFromRow : OpenClaim := { program := "ytgemdjcadlejfaa", sum := "d32c406071901ab09b73a53079490debfa512b165aaebcbf1a56aa3012d8e758", func := "loop.example/g00834/laws.FnExactGamesFrom", spec := "fnExactGamesFrom", apart := false }
def FnExactGamesFromSaid : Prop := fnExactGamesFromRow.holds Try.pinned (OpenSpec.ofChange fnExactGamesFromSpec)

/-- ITS FALSE NEIGHBOUR: 'it returns false'. Refute it at one input. -/
def fnExactGamesFromWrong : ChangeSpec := { name := "fnExactGamesFrom", fn := fun _ => fun
  | [d] => { results := [.lit (.bool false)], args := [d] }
  | _ => none }
def FnExactGamesFromWrongFalsely : Prop := fnExactGamesFromRow.holds Try.pinned (OpenSpec.ofChange fnExactGamesFromWrong)

/-- 'laws.FnExactRoundOf': WHATEVER THE INPUT: true; the input reads as it did. -/
def fnExactRoundOfSpec : ChangeSpec := { name := "fnExactRoundOf", fn := fun _ => fun
  | [d1, d2, d3] => { results := [.lit (.bool true)], args := [d1, d2, d3] }
  | _ => none }
def fnExactRoundOfRow : OpenClaim := { program := "ytgemdjcadlejfaa", sum := "d32c406071901ab09b73a53079490debfa512b165aaebcbf1a56aa3012d8e758", func := "loop.example/g00834/laws.FnExactRoundOf", spec := "fnExactRoundOf", unfollowed := true, recurses := true, apart := false }
def FnExactRoundOfSaid : Prop := fnExactRoundOfRow.holds Try.pinned (OpenSpec.ofChange fnExactRoundOfSpec)

/-- ITS FALSE NEIGHBOUR: 'it returns false'. Refute it at one input. -/
def fnExactRoundOfWrong : ChangeSpec := { name := "fnExactRoundOf", fn := fun _ => fun
  | [d1, d2, d3] => { results := [.lit (.bool false)], args := [d1, d2, d3] }
  | _ => none }
def FnExactRoundOfWrongFalsely : Prop := fnExactRoundOfRow.holds Try.pinned (OpenSpec.ofChange fnExactRoundOfWrong)

/- THE SECOND FORM. 'bulk': how many values and letters a reading holds, each counted each time it is reached (what is shared counts as often as it is met; a slice's spare places count too). A statement '..UptoSaid' is the law's where the arguments, and the package variables that the reading takes, are together of bulk at most 1048576: NARROWER than '..Said'. Prove '..Said' where nothing that the law and all that it calls make is longer than what came in: it says more and counts as full. Else prove '..UptoSaid'. A law counts once. -/
mutual
def uptoBulk {H : Type} : DataW H → Nat
  | .lit (.string bytes) => bytes.length + 1
  | .lit _ => 1
  | .nil => 1
  | .ptr d => uptoBulk d + 1
  | .slice elems spare => uptoBulkAll elems + uptoBulkAll spare + 1
  | .agg parts => uptoBulkAll parts + 1
  | .iface _ d => uptoBulk d + 1
  | .map entries => uptoBulkEntries entries + 1
  | .held _ => 1
def uptoBulkAll {H : Type} : List (DataW H) → Nat
  | [] => 0
  | d :: r => uptoBulk d + uptoBulkAll r
def uptoBulkEntries {H : Type} : List (Lit × DataW H) → Nat
  | [] => 0
  | x :: r => uptoBulkEntry x + uptoBulkEntries r
def uptoBulkEntry {H : Type} : Lit × DataW H → Nat
  | (.string bytes, d) => bytes.length + uptoBulk d + 1
  | (_, d) => uptoBulk d + 1
 end
def uptoSmall : (H : Type) → List (DataW H) → Bool := fun _ ds => decide (uptoBulkAll ds ≤ 1048576)
def OpenSpec.upto (s : _root_.Go.ChangeSpec) : _root_.Go.OpenSpec := { _root_.Go.OpenSpec.ofChange s with cond := some uptoSmall }

/-- 'laws.FnRounds', WHERE WHAT IT READS IS OF BULK AT MOST 1048576: true; the input reads as it did. -/
def fnRoundsUptoRow : OpenClaim := { program := "ytgemdjcadlejfaa", sum := "d32c406071901ab09b73a53079490debfa512b165aaebcbf1a56aa3012d8e758", func := "loop.example/g00834/laws.FnRounds", spec := "fnRounds", unfollowed := true, recurses := true, apart := false, narrowed := true }
def FnRoundsUptoSaid : Prop := fnRoundsUptoRow.holds Try.pinned (OpenSpec.upto fnRoundsSpec)

/-- 'laws.FnExactCircleRounds', WHERE WHAT IT READS IS OF BULK AT MOST 1048576: true; the input reads as it did. -/
def fnExactCircleRoundsUptoRow : OpenClaim := { program := "ytgemdjcadlejfaa", sum := "d32c406071901ab09b73a53079490debfa512b165aaebcbf1a56aa3012d8e758", func := "loop.example/g00834/laws.FnExactCircleRounds", spec := "fnExactCircleRounds", apart := false, narrowed := true }
def FnExactCircleRoundsUptoSaid : Prop := fnExactCircleRoundsUptoRow.holds Try.pinned (OpenSpec.upto fnExactCircleRoundsSpec)

/-- 'laws.FnExactMirrorRounds', WHERE WHAT IT READS IS OF BULK AT MOST 1048576: true; the input reads as it did. -/
def fnExactMirrorRoundsUptoRow : OpenClaim := { program := "ytgemdjcadlejfaa", sum := "d32c406071901ab09b73a53079490debfa512b165aaebcbf1a56aa3012d8e758", func := "loop.example/g00834/laws.FnExactMirrorRounds", spec := "fnExactMirrorRounds", apart := false, narrowed := true }
def FnExactMirrorRoundsUptoSaid : Prop := fnExactMirrorRoundsUptoRow.holds Try.pinned (OpenSpec.upto fnExactMirrorRoundsSpec)

/-- 'laws.FnExactIsSchedule', WHERE WHAT IT READS IS OF BULK AT MOST 1048576: true; the input reads as it did. -/
def fnExactIsScheduleUptoRow : OpenClaim := { program := "ytgemdjcadlejfaa", sum := "d32c406071901ab09b73a53079490debfa512b165aaebcbf1a56aa3012d8e758", func := "loop.example/g00834/laws.FnExactIsSchedule", spec := "fnExactIsSchedule", unfollowed := true, recurses := true, apart := false, narrowed := true }
def FnExactIsScheduleUptoSaid : Prop := fnExactIsScheduleUptoRow.holds Try.pinned (OpenSpec.upto fnExactIsScheduleSpec)

/-- 'laws.FnExactIsRoundRobin', WHERE WHAT IT READS IS OF BULK AT MOST 1048576: true; the input reads as it did. -/
def fnExactIsRoundRobinUptoRow : OpenClaim := { program := "ytgemdjcadlejfaa", sum := "d32c406071901ab09b73a53079490debfa512b165aaebcbf1a56aa3012d8e758", func := "loop.example/g00834/laws.FnExactIsRoundRobin", spec := "fnExactIsRoundRobin", unfollowed := true, recurses := true, apart := false, narrowed := true }
def FnExactIsRoundRobinUptoSaid : Prop := fnExactIsRoundRobinUptoRow.holds Try.pinned (OpenSpec.upto fnExactIsRoundRobinSpec)

/-- 'laws.FnExactVenuesOf', WHERE WHAT IT READS IS OF BULK AT MOST 1048576: true; the input reads as it did. -/
def fnExactVenuesOfUptoRow : OpenClaim := { program := "ytgemdjcadlejfaa", sum := "d32c406071901ab09b73a53079490debfa512b165aaebcbf1a56aa3012d8e758", func := "loop.example/g00834/laws.FnExactVenuesOf", spec := "fnExactVenuesOf", apart := false, narrowed := true }
def FnExactVenuesOfUptoSaid : Prop := fnExactVenuesOfUptoRow.holds Try.pinned (OpenSpec.upto fnExactVenuesOfSpec)

/-- 'laws.FnExactBreaksOf', WHERE WHAT IT READS IS OF BULK AT MOST 1048576: true; the input reads as it did. -/
def fnExactBreaksOfUptoRow : OpenClaim := { program := "ytgemdjcadlejfaa", sum := "d32c406071901ab09b73a53079490debfa512b165aaebcbf1a56aa3012d8e758", func := "loop.example/g00834/laws.FnExactBreaksOf", spec := "fnExactBreaksOf", apart := false, narrowed := true }
def FnExactBreaksOfUptoSaid : Prop := fnExactBreaksOfUptoRow.holds Try.pinned (OpenSpec.upto fnExactBreaksOfSpec)

/-- 'laws.FnExactTotalBreaks', WHERE WHAT IT READS IS OF BULK AT MOST 1048576: true; the input reads as it did. -/
def fnExactTotalBreaksUptoRow : OpenClaim := { program := "ytgemdjcadlejfaa", sum := "d32c406071901ab09b73a53079490debfa512b165aaebcbf1a56aa3012d8e758", func := "loop.example/g00834/laws.FnExactTotalBreaks", spec := "fnExactTotalBreaks", unfollowed := true, recurses := true, apart := false, narrowed := true }
def FnExactTotalBreaksUptoSaid : Prop := fnExactTotalBreaksUptoRow.holds Try.pinned (OpenSpec.upto fnExactTotalBreaksSpec)

/-- 'laws.FnExactGamesFrom', WHERE WHAT IT READS IS OF BULK AT MOST 1048576: true; the input reads as it did. -/
def fnExactGamesFromUptoRow : OpenClaim := { program := "ytgemdjcadlejfaa", sum := "d32c406071901ab09b73a53079490debfa512b165aaebcbf1a56aa3012d8e758", func := "loop.example/g00834/laws.FnExactGamesFrom", spec := "fnExactGamesFrom", apart := false, narrowed := true }
def FnExactGamesFromUptoSaid : Prop := fnExactGamesFromUptoRow.holds Try.pinned (OpenSpec.upto fnExactGamesFromSpec)

/-- 'laws.FnExactRoundOf', WHERE WHAT IT READS IS OF BULK AT MOST 1048576: true; the input reads as it did. -/
def fnExactRoundOfUptoRow : OpenClaim := { program := "ytgemdjcadlejfaa", sum := "d32c406071901ab09b73a53079490debfa512b165aaebcbf1a56aa3012d8e758", func := "loop.example/g00834/laws.FnExactRoundOf", spec := "fnExactRoundOf", unfollowed := true, recurses := true, apart := false, narrowed := true }
def FnExactRoundOfUptoSaid : Prop := fnExactRoundOfUptoRow.holds Try.pinned (OpenSpec.upto fnExactRoundOfSpec)

end Rows
end Go.Proofs.Ytgemdjcadlejfaa
