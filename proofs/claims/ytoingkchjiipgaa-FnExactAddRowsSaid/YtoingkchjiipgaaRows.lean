/-
  No cell of these rows narrows 'for every input' (looked for: loops, veiled, ifaces, maps, wideKeys, modest, calm, conditions, laid).
  DERIVED. THE GIVEN ROWS OF THIS SEAT. 8 by the template 'for every input the law returns true; each argument reads behind the call as it read before'; 0 by the template 'total and deterministic' (their statements: YtoingkchjiipgaaTotals.lean).
  GIVEN WITH THE SEED: the statements are not yours to turn. If you find one false, say at which input.
  Laid BY PROGRAM, IN A SANDBOX (cutbox-rows.mjs): the forced cells as the released guide's own fill.sh prints them over the translation d259ef30eb3d4e25… (all of the seat's roots in one cut). By AI agents, Wed Nov 11 2026. No macro, syntax, notation, axiom, sorry.
-/
import Derived.Test.YtoingkchjiipgaaChecked
import GoSem.Claim
import GoSem.ClaimJoined
import GoSem.ClaimMapViews
import Derived.JoinedTies
import Derived.KernelRfl
namespace Go.Proofs.Ytoingkchjiipgaa
/- THE CELL 'sum', in the pinned program and in every row, IS THE sha256 OF THE DUMP (.gsa) THAT YtoingkchjiipgaaProg.lean LOADS. Nothing in Lean hashes anything: it is a label: what it is worth is what the hold of that sum in a sandbox is worth. -/
noncomputable def Try.pinned : Pinned := { name := "ytoingkchjiipgaa", sum := "d259ef30eb3d4e25d1d79074f34832237efb692c7fcbbaf9fbe332edcf39a903", checked := Try.checked }
namespace Rows
def none {H : Type} : Left H := { results := [], args := [] }

/-- 'laws.FnTables': WHATEVER THE INPUT: true; the input reads as it did. -/
def fnTablesSpec : ChangeSpec := { name := "fnTables", fn := fun _ => fun
  | [d] => { results := [.lit (.bool true)], args := [d] }
  | _ => none }
def fnTablesRow : OpenClaim := { program := "ytoingkchjiipgaa", sum := "d259ef30eb3d4e25d1d79074f34832237efb692c7fcbbaf9fbe332edcf39a903", func := "loop.example/g00834/laws.FnTables", spec := "fnTables", unfollowed := true, recurses := true, apart := false }
def FnTablesSaid : Prop := fnTablesRow.holds Try.pinned (OpenSpec.ofChange fnTablesSpec)

/-- ITS FALSE NEIGHBOUR: 'it returns false'. Refute it at one input. -/
def fnTablesWrong : ChangeSpec := { name := "fnTables", fn := fun _ => fun
  | [d] => { results := [.lit (.bool false)], args := [d] }
  | _ => none }
def FnTablesWrongFalsely : Prop := fnTablesRow.holds Try.pinned (OpenSpec.ofChange fnTablesWrong)

/-- 'laws.FnExactTableOf': WHATEVER THE INPUT: true; the input reads as it did. -/
def fnExactTableOfSpec : ChangeSpec := { name := "fnExactTableOf", fn := fun _ => fun
  | [d1, d2, d3] => { results := [.lit (.bool true)], args := [d1, d2, d3] }
  | _ => none }
def fnExactTableOfRow : OpenClaim := { program := "ytoingkchjiipgaa", sum := "d259ef30eb3d4e25d1d79074f34832237efb692c7fcbbaf9fbe332edcf39a903", func := "loop.example/g00834/laws.FnExactTableOf", spec := "fnExactTableOf", unfollowed := true, recurses := true, apart := false }
def FnExactTableOfSaid : Prop := fnExactTableOfRow.holds Try.pinned (OpenSpec.ofChange fnExactTableOfSpec)

/-- ITS FALSE NEIGHBOUR: 'it returns false'. Refute it at one input. -/
def fnExactTableOfWrong : ChangeSpec := { name := "fnExactTableOf", fn := fun _ => fun
  | [d1, d2, d3] => { results := [.lit (.bool false)], args := [d1, d2, d3] }
  | _ => none }
def FnExactTableOfWrongFalsely : Prop := fnExactTableOfRow.holds Try.pinned (OpenSpec.ofChange fnExactTableOfWrong)

/-- 'laws.FnExactTableAmong': WHATEVER THE INPUT: true; the input reads as it did. -/
def fnExactTableAmongSpec : ChangeSpec := { name := "fnExactTableAmong", fn := fun _ => fun
  | [d1, d2, d3, d4] => { results := [.lit (.bool true)], args := [d1, d2, d3, d4] }
  | _ => none }
def fnExactTableAmongRow : OpenClaim := { program := "ytoingkchjiipgaa", sum := "d259ef30eb3d4e25d1d79074f34832237efb692c7fcbbaf9fbe332edcf39a903", func := "loop.example/g00834/laws.FnExactTableAmong", spec := "fnExactTableAmong", unfollowed := true, recurses := true, apart := false }
def FnExactTableAmongSaid : Prop := fnExactTableAmongRow.holds Try.pinned (OpenSpec.ofChange fnExactTableAmongSpec)

/-- ITS FALSE NEIGHBOUR: 'it returns false'. Refute it at one input. -/
def fnExactTableAmongWrong : ChangeSpec := { name := "fnExactTableAmong", fn := fun _ => fun
  | [d1, d2, d3, d4] => { results := [.lit (.bool false)], args := [d1, d2, d3, d4] }
  | _ => none }
def FnExactTableAmongWrongFalsely : Prop := fnExactTableAmongRow.holds Try.pinned (OpenSpec.ofChange fnExactTableAmongWrong)

/-- 'laws.FnExactDifferenceOf': WHATEVER THE INPUT: true; the input reads as it did. -/
def fnExactDifferenceOfSpec : ChangeSpec := { name := "fnExactDifferenceOf", fn := fun _ => fun
  | [d] => { results := [.lit (.bool true)], args := [d] }
  | _ => none }
def fnExactDifferenceOfRow : OpenClaim := { program := "ytoingkchjiipgaa", sum := "d259ef30eb3d4e25d1d79074f34832237efb692c7fcbbaf9fbe332edcf39a903", func := "loop.example/g00834/laws.FnExactDifferenceOf", spec := "fnExactDifferenceOf", apart := false }
def FnExactDifferenceOfSaid : Prop := fnExactDifferenceOfRow.holds Try.pinned (OpenSpec.ofChange fnExactDifferenceOfSpec)

/-- ITS FALSE NEIGHBOUR: 'it returns false'. Refute it at one input. -/
def fnExactDifferenceOfWrong : ChangeSpec := { name := "fnExactDifferenceOf", fn := fun _ => fun
  | [d] => { results := [.lit (.bool false)], args := [d] }
  | _ => none }
def FnExactDifferenceOfWrongFalsely : Prop := fnExactDifferenceOfRow.holds Try.pinned (OpenSpec.ofChange fnExactDifferenceOfWrong)

/-- 'laws.FnExactAddRows': WHATEVER THE INPUT: true; the input reads as it did. -/
def fnExactAddRowsSpec : ChangeSpec := { name := "fnExactAddRows", fn := fun _ => fun
  | [d1, d2] => { results := [.lit (.bool true)], args := [d1, d2] }
  | _ => none }
def fnExactAddRowsRow : OpenClaim := { program := "ytoingkchjiipgaa", sum := "d259ef30eb3d4e25d1d79074f34832237efb692c7fcbbaf9fbe332edcf39a903", func := "loop.example/g00834/laws.FnExactAddRows", spec := "fnExactAddRows", apart := false }
def FnExactAddRowsSaid : Prop := fnExactAddRowsRow.holds Try.pinned (OpenSpec.ofChange fnExactAddRowsSpec)

/-- ITS FALSE NEIGHBOUR: 'it returns false'. Refute it at one input. -/
def fnExactAddRowsWrong : ChangeSpec := { name := "fnExactAddRows", fn := fun _ => fun
  | [d1, d2] => { results := [.lit (.bool false)], args := [d1, d2] }
  | _ => none }
def FnExactAddRowsWrongFalsely : Prop := fnExactAddRowsRow.holds Try.pinned (OpenSpec.ofChange fnExactAddRowsWrong)

/-- 'laws.FnExactTotalPlayed': WHATEVER THE INPUT: true; the input reads as it did. -/
def fnExactTotalPlayedSpec : ChangeSpec := { name := "fnExactTotalPlayed", fn := fun _ => fun
  | [d] => { results := [.lit (.bool true)], args := [d] }
  | _ => none }
def fnExactTotalPlayedRow : OpenClaim := { program := "ytoingkchjiipgaa", sum := "d259ef30eb3d4e25d1d79074f34832237efb692c7fcbbaf9fbe332edcf39a903", func := "loop.example/g00834/laws.FnExactTotalPlayed", spec := "fnExactTotalPlayed", apart := false }
def FnExactTotalPlayedSaid : Prop := fnExactTotalPlayedRow.holds Try.pinned (OpenSpec.ofChange fnExactTotalPlayedSpec)

/-- ITS FALSE NEIGHBOUR: 'it returns false'. Refute it at one input. -/
def fnExactTotalPlayedWrong : ChangeSpec := { name := "fnExactTotalPlayed", fn := fun _ => fun
  | [d] => { results := [.lit (.bool false)], args := [d] }
  | _ => none }
def FnExactTotalPlayedWrongFalsely : Prop := fnExactTotalPlayedRow.holds Try.pinned (OpenSpec.ofChange fnExactTotalPlayedWrong)

/-- 'laws.FnExactLeaderOf': WHATEVER THE INPUT: true; the input reads as it did. -/
def fnExactLeaderOfSpec : ChangeSpec := { name := "fnExactLeaderOf", fn := fun _ => fun
  | [d] => { results := [.lit (.bool true)], args := [d] }
  | _ => none }
def fnExactLeaderOfRow : OpenClaim := { program := "ytoingkchjiipgaa", sum := "d259ef30eb3d4e25d1d79074f34832237efb692c7fcbbaf9fbe332edcf39a903", func := "loop.example/g00834/laws.FnExactLeaderOf", spec := "fnExactLeaderOf", apart := false }
def FnExactLeaderOfSaid : Prop := fnExactLeaderOfRow.holds Try.pinned (OpenSpec.ofChange fnExactLeaderOfSpec)

/-- ITS FALSE NEIGHBOUR: 'it returns false'. Refute it at one input. -/
def fnExactLeaderOfWrong : ChangeSpec := { name := "fnExactLeaderOf", fn := fun _ => fun
  | [d] => { results := [.lit (.bool false)], args := [d] }
  | _ => none }
def FnExactLeaderOfWrongFalsely : Prop := fnExactLeaderOfRow.holds Try.pinned (OpenSpec.ofChange fnExactLeaderOfWrong)

/-- 'laws.FnExactIsBalanced': WHATEVER THE INPUT: true; the input reads as it did. -/
def fnExactIsBalancedSpec : ChangeSpec := { name := "fnExactIsBalanced", fn := fun _ => fun
  | [d] => { results := [.lit (.bool true)], args := [d] }
  | _ => none }
def fnExactIsBalancedRow : OpenClaim := { program := "ytoingkchjiipgaa", sum := "d259ef30eb3d4e25d1d79074f34832237efb692c7fcbbaf9fbe332edcf39a903", func := "loop.example/g00834/laws.FnExactIsBalanced", spec := "fnExactIsBalanced", unfollowed := true, recurses := true, apart := false }
def FnExactIsBalancedSaid : Prop := fnExactIsBalancedRow.holds Try.pinned (OpenSpec.ofChange fnExactIsBalancedSpec)

/-- ITS FALSE NEIGHBOUR: 'it returns false'. Refute it at one input. -/
def fnExactIsBalancedWrong : ChangeSpec := { name := "fnExactIsBalanced", fn := fun _ => fun
  | [d] => { results := [.lit (.bool false)], args := [d] }
  | _ => none }
def FnExactIsBalancedWrongFalsely : Prop := fnExactIsBalancedRow.holds Try.pinned (OpenSpec.ofChange fnExactIsBalancedWrong)

/- THE SECOND FORM. 'bulk': how many values and letters a reading holds, each counted each time it is reached (what is shared counts as often as it is met; a slice's spare places count too). A statement '..UptoSaid' is the law's where the arguments, and the package variables that the reading takes, are together of bulk at most 1048576: NARROWER than '..Said'. Prove '..Said' where nothing that the law and all that it calls make is longer than what came in: it says more and counts as full. Else prove '..UptoSaid'. A law counts once. -/
mutual
def uptoBulk {H : Type} : DataW H → Nat
  | .lit (.string bytes) => bytes.length + 1
  | .lit _ => 1
  | .nil => 1
  | .ptr d => uptoBulk d + 1
  | .slice elems spare => uptoBulkAll elems + uptoBulkAll spare + 1
  | .agg parts => uptoBulkAll parts + 1
  | .iface _ d => uptoBulk d + 1
  | .map entries => uptoBulkEntries entries + 1
  | .held _ => 1
def uptoBulkAll {H : Type} : List (DataW H) → Nat
  | [] => 0
  | d :: r => uptoBulk d + uptoBulkAll r
def uptoBulkEntries {H : Type} : List (Lit × DataW H) → Nat
  | [] => 0
  | x :: r => uptoBulkEntry x + uptoBulkEntries r
def uptoBulkEntry {H : Type} : Lit × DataW H → Nat
  | (.string bytes, d) => bytes.length + uptoBulk d + 1
  | (_, d) => uptoBulk d + 1
 end
def uptoSmall : (H : Type) → List (DataW H) → Bool := fun _ ds => decide (uptoBulkAll ds ≤ 1048576)
def OpenSpec.upto (s : _root_.Go.ChangeSpec) : _root_.Go.OpenSpec := { _root_.Go.OpenSpec.ofChange s with cond := some uptoSmall }

/-- 'laws.FnTables', WHERE WHAT IT READS IS OF BULK AT MOST 1048576: true; the input reads as it did. -/
def fnTablesUptoRow : OpenClaim := { program := "ytoingkchjiipgaa", sum := "d259ef30eb3d4e25d1d79074f34832237efb692c7fcbbaf9fbe332edcf39a903", func := "loop.example/g00834/laws.FnTables", spec := "fnTables", unfollowed := true, recurses := true, apart := false, narrowed := true }
def FnTablesUptoSaid : Prop := fnTablesUptoRow.holds Try.pinned (OpenSpec.upto fnTablesSpec)

/-- 'laws.FnExactTableOf', WHERE WHAT IT READS IS OF BULK AT MOST 1048576: true; the input reads as it did. -/
def fnExactTableOfUptoRow : OpenClaim := { program := "ytoingkchjiipgaa", sum := "d259ef30eb3d4e25d1d79074f34832237efb692c7fcbbaf9fbe332edcf39a903", func := "loop.example/g00834/laws.FnExactTableOf", spec := "fnExactTableOf", unfollowed := true, recurses := true, apart := false, narrowed := true }
def FnExactTableOfUptoSaid : Prop := fnExactTableOfUptoRow.holds Try.pinned (OpenSpec.upto fnExactTableOfSpec)

/-- 'laws.FnExactTableAmong', WHERE WHAT IT READS IS OF BULK AT MOST 1048576: true; the input reads as it did. -/
def fnExactTableAmongUptoRow : OpenClaim := { program := "ytoingkchjiipgaa", sum := "d259ef30eb3d4e25d1d79074f34832237efb692c7fcbbaf9fbe332edcf39a903", func := "loop.example/g00834/laws.FnExactTableAmong", spec := "fnExactTableAmong", unfollowed := true, recurses := true, apart := false, narrowed := true }
def FnExactTableAmongUptoSaid : Prop := fnExactTableAmongUptoRow.holds Try.pinned (OpenSpec.upto fnExactTableAmongSpec)

/-- 'laws.FnExactDifferenceOf', WHERE WHAT IT READS IS OF BULK AT MOST 1048576: true; the input reads as it did. -/
def fnExactDifferenceOfUptoRow : OpenClaim := { program := "ytoingkchjiipgaa", sum := "d259ef30eb3d4e25d1d79074f34832237efb692c7fcbbaf9fbe332edcf39a903", func := "loop.example/g00834/laws.FnExactDifferenceOf", spec := "fnExactDifferenceOf", apart := false, narrowed := true }
def FnExactDifferenceOfUptoSaid : Prop := fnExactDifferenceOfUptoRow.holds Try.pinned (OpenSpec.upto fnExactDifferenceOfSpec)

/-- 'laws.FnExactAddRows', WHERE WHAT IT READS IS OF BULK AT MOST 1048576: true; the input reads as it did. -/
def fnExactAddRowsUptoRow : OpenClaim := { program := "ytoingkchjiipgaa", sum := "d259ef30eb3d4e25d1d79074f34832237efb692c7fcbbaf9fbe332edcf39a903", func := "loop.example/g00834/laws.FnExactAddRows", spec := "fnExactAddRows", apart := false, narrowed := true }
def FnExactAddRowsUptoSaid : Prop := fnExactAddRowsUptoRow.holds Try.pinned (OpenSpec.upto fnExactAddRowsSpec)

/-- 'laws.FnExactTotalPlayed', WHERE WHAT IT READS IS OF BULK AT MOST 1048576: true; the input reads as it did. -/
def fnExactTotalPlayedUptoRow : OpenClaim := { program := "ytoingkchjiipgaa", sum := "d259ef30eb3d4e25d1d79074f34832237efb692c7fcbbaf9fbe332edcf39a903", func := "loop.example/g00834/laws.FnExactTotalPlayed", spec := "fnExactTotalPlayed", apart := false, narrowed := true }
def FnExactTotalPlayedUptoSaid : Prop := fnExactTotalPlayedUptoRow.holds Try.pinned (OpenSpec.upto fnExactTotalPlayedSpec)

/-- 'laws.FnExactLeaderOf', WHERE WHAT IT READS IS OF BULK AT MOST 1048576: true; the input reads as it did. -/
def fnExactLeaderOfUptoRow : OpenClaim := { program := "ytoingkchjiipgaa", sum := "d259ef30eb3d4e25d1d79074f34832237efb692c7fcbbaf9fbe332edcf39a903", func := "loop.example/g00834/laws.FnExactLeaderOf", spec := "fnExactLeaderOf", apart := false, narrowed := true }
def FnExactLeaderOfUptoSaid : Prop := fnExactLeaderOfUptoRow.holds Try.pinned (OpenSpec.upto fnExactLeaderOfSpec)

/-- 'laws.FnExactIsBalanced', WHERE WHAT IT READS IS OF BULK AT MOST 1048576: true; the input reads as it did. -/
def fnExactIsBalancedUptoRow : OpenClaim := { program := "ytoingkchjiipgaa", sum := "d259ef30eb3d4e25d1d79074f34832237efb692c7fcbbaf9fbe332edcf39a903", func := "loop.example/g00834/laws.FnExactIsBalanced", spec := "fnExactIsBalanced", unfollowed := true, recurses := true, apart := false, narrowed := true }
def FnExactIsBalancedUptoSaid : Prop := fnExactIsBalancedUptoRow.holds Try.pinned (OpenSpec.upto fnExactIsBalancedSpec)

end Rows
end Go.Proofs.Ytoingkchjiipgaa
