/-
  No cell of these rows narrows 'for every input' (looked for: loops, veiled, ifaces, maps, wideKeys, modest, calm, conditions, laid).
  DERIVED. THE GIVEN ROWS OF THIS SEAT. 6 by the template 'for every input the law returns true; each argument reads behind the call as it read before'; 0 by the template 'total and deterministic' (their statements: YtakbolkdbpehoaaGreatTotals.lean).
  GIVEN WITH THE SEED: the statements are not yours to turn. If you find one false, say at which input.
  Laid BY PROGRAM, IN A SANDBOX (cutbox-rows.mjs): the forced cells as the released guide's own fill.sh prints them over the translation 9570426c1ba2f662… (all of the seat's roots in one cut). By AI agents, Wed Nov 11 2026. No macro, syntax, notation, axiom, sorry.
-/
import Derived.Test.YtakbolkdbpehoaaGreatChecked
import GoSem.Claim
import GoSem.ClaimJoined
import GoSem.ClaimMapViews
import Derived.JoinedTies
import Derived.KernelRfl
namespace Go.Proofs.YtakbolkdbpehoaaGreat
/- THE CELL 'sum', in the pinned program and in every row, IS THE sha256 OF THE DUMP (.gsa) THAT YtakbolkdbpehoaaGreatProg.lean LOADS. Nothing in Lean hashes anything: it is a label: what it is worth is what the hold of that sum in a sandbox is worth. -/
noncomputable def Tryz.pinned : Pinned := { name := "ytakbolkdbpehoaagreat", sum := "9570426c1ba2f6627879ed419bef29b903045fb16fdfc9bdacc2922a5755ed90", checked := Tryz.checked }
namespace Rows
def none {H : Type} : Left H := { results := [], args := [] }

/-- 'laws.FnRanked': WHATEVER THE INPUT: true; the input reads as it did. -/
def fnRankedSpec : ChangeSpec := { name := "fnRanked", fn := fun _ => fun
  | [d] => { results := [.lit (.bool true)], args := [d] }
  | _ => none }
def fnRankedRow : OpenClaim := { program := "ytakbolkdbpehoaagreat", sum := "9570426c1ba2f6627879ed419bef29b903045fb16fdfc9bdacc2922a5755ed90", func := "loop.example/g00834/laws.FnRanked", spec := "fnRanked", unfollowed := true, recurses := true, apart := false }
def FnRankedSaid : Prop := fnRankedRow.holds Tryz.pinned (OpenSpec.ofChange fnRankedSpec)

/-- ITS FALSE NEIGHBOUR: 'it returns false'. Refute it at one input. -/
def fnRankedWrong : ChangeSpec := { name := "fnRanked", fn := fun _ => fun
  | [d] => { results := [.lit (.bool false)], args := [d] }
  | _ => none }
def FnRankedWrongFalsely : Prop := fnRankedRow.holds Tryz.pinned (OpenSpec.ofChange fnRankedWrong)

/-- 'laws.FnExactSplitBy': WHATEVER THE INPUT: true; the input reads as it did. -/
def fnExactSplitBySpec : ChangeSpec := { name := "fnExactSplitBy", fn := fun _ => fun
  | [d1, d2, d3] => { results := [.lit (.bool true)], args := [d1, d2, d3] }
  | _ => none }
def fnExactSplitByRow : OpenClaim := { program := "ytakbolkdbpehoaagreat", sum := "9570426c1ba2f6627879ed419bef29b903045fb16fdfc9bdacc2922a5755ed90", func := "loop.example/g00834/laws.FnExactSplitBy", spec := "fnExactSplitBy", unfollowed := true, recurses := true, apart := false }
def FnExactSplitBySaid : Prop := fnExactSplitByRow.holds Tryz.pinned (OpenSpec.ofChange fnExactSplitBySpec)

/-- ITS FALSE NEIGHBOUR: 'it returns false'. Refute it at one input. -/
def fnExactSplitByWrong : ChangeSpec := { name := "fnExactSplitBy", fn := fun _ => fun
  | [d1, d2, d3] => { results := [.lit (.bool false)], args := [d1, d2, d3] }
  | _ => none }
def FnExactSplitByWrongFalsely : Prop := fnExactSplitByRow.holds Tryz.pinned (OpenSpec.ofChange fnExactSplitByWrong)

/-- 'laws.FnExactRankFrom': WHATEVER THE INPUT: true; the input reads as it did. -/
def fnExactRankFromSpec : ChangeSpec := { name := "fnExactRankFrom", fn := fun _ => fun
  | [d1, d2, d3] => { results := [.lit (.bool true)], args := [d1, d2, d3] }
  | _ => none }
def fnExactRankFromRow : OpenClaim := { program := "ytakbolkdbpehoaagreat", sum := "9570426c1ba2f6627879ed419bef29b903045fb16fdfc9bdacc2922a5755ed90", func := "loop.example/g00834/laws.FnExactRankFrom", spec := "fnExactRankFrom", unfollowed := true, recurses := true, apart := false }
def FnExactRankFromSaid : Prop := fnExactRankFromRow.holds Tryz.pinned (OpenSpec.ofChange fnExactRankFromSpec)

/-- ITS FALSE NEIGHBOUR: 'it returns false'. Refute it at one input. -/
def fnExactRankFromWrong : ChangeSpec := { name := "fnExactRankFrom", fn := fun _ => fun
  | [d1, d2, d3] => { results := [.lit (.bool false)], args := [d1, d2, d3] }
  | _ => none }
def FnExactRankFromWrongFalsely : Prop := fnExactRankFromRow.holds Tryz.pinned (OpenSpec.ofChange fnExactRankFromWrong)

/-- 'laws.FnExactRankGroups': WHATEVER THE INPUT: true; the input reads as it did. -/
def fnExactRankGroupsSpec : ChangeSpec := { name := "fnExactRankGroups", fn := fun _ => fun
  | [d] => { results := [.lit (.bool true)], args := [d] }
  | _ => none }
def fnExactRankGroupsRow : OpenClaim := { program := "ytakbolkdbpehoaagreat", sum := "9570426c1ba2f6627879ed419bef29b903045fb16fdfc9bdacc2922a5755ed90", func := "loop.example/g00834/laws.FnExactRankGroups", spec := "fnExactRankGroups", unfollowed := true, recurses := true, apart := false }
def FnExactRankGroupsSaid : Prop := fnExactRankGroupsRow.holds Tryz.pinned (OpenSpec.ofChange fnExactRankGroupsSpec)

/-- ITS FALSE NEIGHBOUR: 'it returns false'. Refute it at one input. -/
def fnExactRankGroupsWrong : ChangeSpec := { name := "fnExactRankGroups", fn := fun _ => fun
  | [d] => { results := [.lit (.bool false)], args := [d] }
  | _ => none }
def FnExactRankGroupsWrongFalsely : Prop := fnExactRankGroupsRow.holds Tryz.pinned (OpenSpec.ofChange fnExactRankGroupsWrong)

/-- 'laws.FnExactRanking': WHATEVER THE INPUT: true; the input reads as it did. -/
def fnExactRankingSpec : ChangeSpec := { name := "fnExactRanking", fn := fun _ => fun
  | [d] => { results := [.lit (.bool true)], args := [d] }
  | _ => none }
def fnExactRankingRow : OpenClaim := { program := "ytakbolkdbpehoaagreat", sum := "9570426c1ba2f6627879ed419bef29b903045fb16fdfc9bdacc2922a5755ed90", func := "loop.example/g00834/laws.FnExactRanking", spec := "fnExactRanking", unfollowed := true, recurses := true, apart := false }
def FnExactRankingSaid : Prop := fnExactRankingRow.holds Tryz.pinned (OpenSpec.ofChange fnExactRankingSpec)

/-- ITS FALSE NEIGHBOUR: 'it returns false'. Refute it at one input. -/
def fnExactRankingWrong : ChangeSpec := { name := "fnExactRanking", fn := fun _ => fun
  | [d] => { results := [.lit (.bool false)], args := [d] }
  | _ => none }
def FnExactRankingWrongFalsely : Prop := fnExactRankingRow.holds Tryz.pinned (OpenSpec.ofChange fnExactRankingWrong)

/-- 'laws.FnExactRankOf': WHATEVER THE INPUT: true; the input reads as it did. -/
def fnExactRankOfSpec : ChangeSpec := { name := "fnExactRankOf", fn := fun _ => fun
  | [d1, d2] => { results := [.lit (.bool true)], args := [d1, d2] }
  | _ => none }
def fnExactRankOfRow : OpenClaim := { program := "ytakbolkdbpehoaagreat", sum := "9570426c1ba2f6627879ed419bef29b903045fb16fdfc9bdacc2922a5755ed90", func := "loop.example/g00834/laws.FnExactRankOf", spec := "fnExactRankOf", unfollowed := true, recurses := true, apart := false }
def FnExactRankOfSaid : Prop := fnExactRankOfRow.holds Tryz.pinned (OpenSpec.ofChange fnExactRankOfSpec)

/-- ITS FALSE NEIGHBOUR: 'it returns false'. Refute it at one input. -/
def fnExactRankOfWrong : ChangeSpec := { name := "fnExactRankOf", fn := fun _ => fun
  | [d1, d2] => { results := [.lit (.bool false)], args := [d1, d2] }
  | _ => none }
def FnExactRankOfWrongFalsely : Prop := fnExactRankOfRow.holds Tryz.pinned (OpenSpec.ofChange fnExactRankOfWrong)

/- THE SECOND FORM. 'bulk': how many values and letters a reading holds, each counted each time it is reached (what is shared counts as often as it is met; a slice's spare places count too). A statement '..UptoSaid' is the law's where the arguments, and the package variables that the reading takes, are together of bulk at most 1048576: NARROWER than '..Said'. Prove '..Said' where nothing that the law and all that it calls make is longer than what came in: it says more and counts as full. Else prove '..UptoSaid'. A law counts once. -/
mutual
def uptoBulk {H : Type} : DataW H → Nat
  | .lit (.string bytes) => bytes.length + 1
  | .lit _ => 1
  | .nil => 1
  | .ptr d => uptoBulk d + 1
  | .slice elems spare => uptoBulkAll elems + uptoBulkAll spare + 1
  | .agg parts => uptoBulkAll parts + 1
  | .iface _ d => uptoBulk d + 1
  | .map entries => uptoBulkEntries entries + 1
  | .held _ => 1
def uptoBulkAll {H : Type} : List (DataW H) → Nat
  | [] => 0
  | d :: r => uptoBulk d + uptoBulkAll r
def uptoBulkEntries {H : Type} : List (Lit × DataW H) → Nat
  | [] => 0
  | x :: r => uptoBulkEntry x + uptoBulkEntries r
def uptoBulkEntry {H : Type} : Lit × DataW H → Nat
  | (.string bytes, d) => bytes.length + uptoBulk d + 1
  | (_, d) => uptoBulk d + 1
 end
def uptoSmall : (H : Type) → List (DataW H) → Bool := fun _ ds => decide (uptoBulkAll ds ≤ 1048576)
def OpenSpec.upto (s : _root_.Go.ChangeSpec) : _root_.Go.OpenSpec := { _root_.Go.OpenSpec.ofChange s with cond := some uptoSmall }

/-- 'laws.FnRanked', WHERE WHAT IT READS IS OF BULK AT MOST 1048576: true; the input reads as it did. -/
def fnRankedUptoRow : OpenClaim := { program := "ytakbolkdbpehoaagreat", sum := "9570426c1ba2f6627879ed419bef29b903045fb16fdfc9bdacc2922a5755ed90", func := "loop.example/g00834/laws.FnRanked", spec := "fnRanked", unfollowed := true, recurses := true, apart := false, narrowed := true }
def FnRankedUptoSaid : Prop := fnRankedUptoRow.holds Tryz.pinned (OpenSpec.upto fnRankedSpec)

/-- 'laws.FnExactSplitBy', WHERE WHAT IT READS IS OF BULK AT MOST 1048576: true; the input reads as it did. -/
def fnExactSplitByUptoRow : OpenClaim := { program := "ytakbolkdbpehoaagreat", sum := "9570426c1ba2f6627879ed419bef29b903045fb16fdfc9bdacc2922a5755ed90", func := "loop.example/g00834/laws.FnExactSplitBy", spec := "fnExactSplitBy", unfollowed := true, recurses := true, apart := false, narrowed := true }
def FnExactSplitByUptoSaid : Prop := fnExactSplitByUptoRow.holds Tryz.pinned (OpenSpec.upto fnExactSplitBySpec)

/-- 'laws.FnExactRankFrom', WHERE WHAT IT READS IS OF BULK AT MOST 1048576: true; the input reads as it did. -/
def fnExactRankFromUptoRow : OpenClaim := { program := "ytakbolkdbpehoaagreat", sum := "9570426c1ba2f6627879ed419bef29b903045fb16fdfc9bdacc2922a5755ed90", func := "loop.example/g00834/laws.FnExactRankFrom", spec := "fnExactRankFrom", unfollowed := true, recurses := true, apart := false, narrowed := true }
def FnExactRankFromUptoSaid : Prop := fnExactRankFromUptoRow.holds Tryz.pinned (OpenSpec.upto fnExactRankFromSpec)

/-- 'laws.FnExactRankGroups', WHERE WHAT IT READS IS OF BULK AT MOST 1048576: true; the input reads as it did. -/
def fnExactRankGroupsUptoRow : OpenClaim := { program := "ytakbolkdbpehoaagreat", sum := "9570426c1ba2f6627879ed419bef29b903045fb16fdfc9bdacc2922a5755ed90", func := "loop.example/g00834/laws.FnExactRankGroups", spec := "fnExactRankGroups", unfollowed := true, recurses := true, apart := false, narrowed := true }
def FnExactRankGroupsUptoSaid : Prop := fnExactRankGroupsUptoRow.holds Tryz.pinned (OpenSpec.upto fnExactRankGroupsSpec)

/-- 'laws.FnExactRanking', WHERE WHAT IT READS IS OF BULK AT MOST 1048576: true; the input reads as it did. -/
def fnExactRankingUptoRow : OpenClaim := { program := "ytakbolkdbpehoaagreat", sum := "9570426c1ba2f6627879ed419bef29b903045fb16fdfc9bdacc2922a5755ed90", func := "loop.example/g00834/laws.FnExactRanking", spec := "fnExactRanking", unfollowed := true, recurses := true, apart := false, narrowed := true }
def FnExactRankingUptoSaid : Prop := fnExactRankingUptoRow.holds Tryz.pinned (OpenSpec.upto fnExactRankingSpec)

/-- 'laws.FnExactRankOf', WHERE WHAT IT READS IS OF BULK AT MOST 1048576: true; the input reads as it did. -/
def fnExactRankOfUptoRow : OpenClaim := { program := "ytakbolkdbpehoaagreat", sum := "9570426c1ba2f6627879ed419bef29b903045fb16fdfc9bdacc2922a5755ed90", func := "loop.example/g00834/laws.FnExactRankOf", spec := "fnExactRankOf", unfollowed := true, recurses := true, apart := false, narrowed := true }
def FnExactRankOfUptoSaid : Prop := fnExactRankOfUptoRow.holds Tryz.pinned (OpenSpec.upto fnExactRankOfSpec)

end Rows
end Go.Proofs.YtakbolkdbpehoaaGreat
