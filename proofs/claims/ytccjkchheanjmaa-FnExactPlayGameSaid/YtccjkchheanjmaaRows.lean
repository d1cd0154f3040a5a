/-
  No cell of these rows narrows 'for every input' (looked for: loops, veiled, ifaces, maps, wideKeys, modest, calm, conditions, laid).
  DERIVED. THE GIVEN ROWS OF THIS SEAT. 10 by the template 'for every input the law returns true; each argument reads behind the call as it read before'; 0 by the template 'total and deterministic' (their statements: YtccjkchheanjmaaTotals.lean).
  GIVEN WITH THE SEED: the statements are not yours to turn. If you find one false, say at which input.
  Laid BY PROGRAM, IN A SANDBOX (cutbox-rows.mjs): the forced cells as the released guide's own fill.sh prints them over the translation d925d5d2583250f6… (all of the seat's roots in one cut). By AI agents, Wed Nov 11 2026. No macro, syntax, notation, axiom, sorry.
-/
import Derived.Test.YtccjkchheanjmaaChecked
import GoSem.Claim
import GoSem.ClaimJoined
import GoSem.ClaimMapViews
import Derived.JoinedTies
import Derived.KernelRfl
namespace Go.Proofs.Ytccjkchheanjmaa
/- THE CELL 'sum', in the pinned program and in every row, IS THE sha256 OF THE DUMP (.gsa) THAT YtccjkchheanjmaaProg.lean LOADS. Nothing in Lean hashes anything: it is a label: what it is worth is what the hold of that sum in a sandbox is worth. -/
noncomputable def Try.pinned : Pinned := { name := "ytccjkchheanjmaa", sum := "d925d5d2583250f621afd9204afbfc1a4e9916164421fc4815e4ff178dfce6df", checked := Try.checked }
namespace Rows
def none {H : Type} : Left H := { results := [], args := [] }

/-- 'laws.FnGames': WHATEVER THE INPUT: true; the input reads as it did. -/
def fnGamesSpec : ChangeSpec := { name := "fnGames", fn := fun _ => fun
  | [d] => { results := [.lit (.bool true)], args := [d] }
  | _ => none }
def fnGamesRow : OpenClaim := { program := "ytccjkchheanjmaa", sum := "d925d5d2583250f621afd9204afbfc1a4e9916164421fc4815e4ff178dfce6df", func := "loop.example/g00834/laws.FnGames", spec := "fnGames", unfollowed := true, recurses := true, apart := false }
def FnGamesSaid : Prop := fnGamesRow.holds Try.pinned (OpenSpec.ofChange fnGamesSpec)

/-- ITS FALSE NEIGHBOUR: 'it returns false'. Refute it at one input. -/
def fnGamesWrong : ChangeSpec := { name := "fnGames", fn := fun _ => fun
  | [d] => { results := [.lit (.bool false)], args := [d] }
  | _ => none }
def FnGamesWrongFalsely : Prop := fnGamesRow.holds Try.pinned (OpenSpec.ofChange fnGamesWrong)

/-- 'laws.FnExactGameOk': WHATEVER THE INPUT: true; the input reads as it did. -/
def fnExactGameOkSpec : ChangeSpec := { name := "fnExactGameOk", fn := fun _ => fun
  | [d1, d2] => { results := [.lit (.bool true)], args := [d1, d2] }
  | _ => none }
def fnExactGameOkRow : OpenClaim := { program := "ytccjkchheanjmaa", sum := "d925d5d2583250f621afd9204afbfc1a4e9916164421fc4815e4ff178dfce6df", func := "loop.example/g00834/laws.FnExactGameOk", spec := "fnExactGameOk", apart := false }
def FnExactGameOkSaid : Prop := fnExactGameOkRow.holds Try.pinned (OpenSpec.ofChange fnExactGameOkSpec)

/-- ITS FALSE NEIGHBOUR: 'it returns false'. Refute it at one input. -/
def fnExactGameOkWrong : ChangeSpec := { name := "fnExactGameOk", fn := fun _ => fun
  | [d1, d2] => { results := [.lit (.bool false)], args := [d1, d2] }
  | _ => none }
def FnExactGameOkWrongFalsely : Prop := fnExactGameOkRow.holds Try.pinned (OpenSpec.ofChange fnExactGameOkWrong)

/-- 'laws.FnExactSeasonOk': WHATEVER THE INPUT: true; the input reads as it did. -/
def fnExactSeasonOkSpec : ChangeSpec := { name := "fnExactSeasonOk", fn := fun _ => fun
  | [d1, d2] => { results := [.lit (.bool true)], args := [d1, d2] }
  | _ => none }
def fnExactSeasonOkRow : OpenClaim := { program := "ytccjkchheanjmaa", sum := "d925d5d2583250f621afd9204afbfc1a4e9916164421fc4815e4ff178dfce6df", func := "loop.example/g00834/laws.FnExactSeasonOk", spec := "fnExactSeasonOk", apart := false }
def FnExactSeasonOkSaid : Prop := fnExactSeasonOkRow.holds Try.pinned (OpenSpec.ofChange fnExactSeasonOkSpec)

/-- ITS FALSE NEIGHBOUR: 'it returns false'. Refute it at one input. -/
def fnExactSeasonOkWrong : ChangeSpec := { name := "fnExactSeasonOk", fn := fun _ => fun
  | [d1, d2] => { results := [.lit (.bool false)], args := [d1, d2] }
  | _ => none }
def FnExactSeasonOkWrongFalsely : Prop := fnExactSeasonOkRow.holds Try.pinned (OpenSpec.ofChange fnExactSeasonOkWrong)

/-- 'laws.FnExactGoalsOf': WHATEVER THE INPUT: true; the input reads as it did. -/
def fnExactGoalsOfSpec : ChangeSpec := { name := "fnExactGoalsOf", fn := fun _ => fun
  | [d] => { results := [.lit (.bool true)], args := [d] }
  | _ => none }
def fnExactGoalsOfRow : OpenClaim := { program := "ytccjkchheanjmaa", sum := "d925d5d2583250f621afd9204afbfc1a4e9916164421fc4815e4ff178dfce6df", func := "loop.example/g00834/laws.FnExactGoalsOf", spec := "fnExactGoalsOf", apart := false }
def FnExactGoalsOfSaid : Prop := fnExactGoalsOfRow.holds Try.pinned (OpenSpec.ofChange fnExactGoalsOfSpec)

/-- ITS FALSE NEIGHBOUR: 'it returns false'. Refute it at one input. -/
def fnExactGoalsOfWrong : ChangeSpec := { name := "fnExactGoalsOf", fn := fun _ => fun
  | [d] => { results := [.lit (.bool false)], args := [d] }
  | _ => none }
def FnExactGoalsOfWrongFalsely : Prop := fnExactGoalsOfRow.holds Try.pinned (OpenSpec.ofChange fnExactGoalsOfWrong)

/-- 'laws.FnExactOutcomeOf': WHATEVER THE INPUT: true; the input reads as it did. -/
def fnExactOutcomeOfSpec : ChangeSpec := { name := "fnExactOutcomeOf", fn := fun _ => fun
  | [d] => { results := [.lit (.bool true)], args := [d] }
  | _ => none }
def fnExactOutcomeOfRow : OpenClaim := { program := "ytccjkchheanjmaa", sum := "d925d5d2583250f621afd9204afbfc1a4e9916164421fc4815e4ff178dfce6df", func := "loop.example/g00834/laws.FnExactOutcomeOf", spec := "fnExactOutcomeOf", apart := false }
def FnExactOutcomeOfSaid : Prop := fnExactOutcomeOfRow.holds Try.pinned (OpenSpec.ofChange fnExactOutcomeOfSpec)

/-- ITS FALSE NEIGHBOUR: 'it returns false'. Refute it at one input. -/
def fnExactOutcomeOfWrong : ChangeSpec := { name := "fnExactOutcomeOf", fn := fun _ => fun
  | [d] => { results := [.lit (.bool false)], args := [d] }
  | _ => none }
def FnExactOutcomeOfWrongFalsely : Prop := fnExactOutcomeOfRow.holds Try.pinned (OpenSpec.ofChange fnExactOutcomeOfWrong)

/-- 'laws.FnExactIsOpen': WHATEVER THE INPUT: true; the input reads as it did. -/
def fnExactIsOpenSpec : ChangeSpec := { name := "fnExactIsOpen", fn := fun _ => fun
  | [d] => { results := [.lit (.bool true)], args := [d] }
  | _ => none }
def fnExactIsOpenRow : OpenClaim := { program := "ytccjkchheanjmaa", sum := "d925d5d2583250f621afd9204afbfc1a4e9916164421fc4815e4ff178dfce6df", func := "loop.example/g00834/laws.FnExactIsOpen", spec := "fnExactIsOpen", apart := false }
def FnExactIsOpenSaid : Prop := fnExactIsOpenRow.holds Try.pinned (OpenSpec.ofChange fnExactIsOpenSpec)

/-- ITS FALSE NEIGHBOUR: 'it returns false'. Refute it at one input. -/
def fnExactIsOpenWrong : ChangeSpec := { name := "fnExactIsOpen", fn := fun _ => fun
  | [d] => { results := [.lit (.bool false)], args := [d] }
  | _ => none }
def FnExactIsOpenWrongFalsely : Prop := fnExactIsOpenRow.holds Try.pinned (OpenSpec.ofChange fnExactIsOpenWrong)

/-- 'laws.FnExactGameOf': WHATEVER THE INPUT: true; the input reads as it did. -/
def fnExactGameOfSpec : ChangeSpec := { name := "fnExactGameOf", fn := fun _ => fun
  | [d1, d2, d3] => { results := [.lit (.bool true)], args := [d1, d2, d3] }
  | _ => none }
def fnExactGameOfRow : OpenClaim := { program := "ytccjkchheanjmaa", sum := "d925d5d2583250f621afd9204afbfc1a4e9916164421fc4815e4ff178dfce6df", func := "loop.example/g00834/laws.FnExactGameOf", spec := "fnExactGameOf", unfollowed := true, recurses := true, apart := false }
def FnExactGameOfSaid : Prop := fnExactGameOfRow.holds Try.pinned (OpenSpec.ofChange fnExactGameOfSpec)

/-- ITS FALSE NEIGHBOUR: 'it returns false'. Refute it at one input. -/
def fnExactGameOfWrong : ChangeSpec := { name := "fnExactGameOf", fn := fun _ => fun
  | [d1, d2, d3] => { results := [.lit (.bool false)], args := [d1, d2, d3] }
  | _ => none }
def FnExactGameOfWrongFalsely : Prop := fnExactGameOfRow.holds Try.pinned (OpenSpec.ofChange fnExactGameOfWrong)

/-- 'laws.FnExactOpenGames': WHATEVER THE INPUT: true; the input reads as it did. -/
def fnExactOpenGamesSpec : ChangeSpec := { name := "fnExactOpenGames", fn := fun _ => fun
  | [d] => { results := [.lit (.bool true)], args := [d] }
  | _ => none }
def fnExactOpenGamesRow : OpenClaim := { program := "ytccjkchheanjmaa", sum := "d925d5d2583250f621afd9204afbfc1a4e9916164421fc4815e4ff178dfce6df", func := "loop.example/g00834/laws.FnExactOpenGames", spec := "fnExactOpenGames", unfollowed := true, recurses := true, apart := false }
def FnExactOpenGamesSaid : Prop := fnExactOpenGamesRow.holds Try.pinned (OpenSpec.ofChange fnExactOpenGamesSpec)

/-- ITS FALSE NEIGHBOUR: 'it returns false'. Refute it at one input. -/
def fnExactOpenGamesWrong : ChangeSpec := { name := "fnExactOpenGames", fn := fun _ => fun
  | [d] => { results := [.lit (.bool false)], args := [d] }
  | _ => none }
def FnExactOpenGamesWrongFalsely : Prop := fnExactOpenGamesRow.holds Try.pinned (OpenSpec.ofChange fnExactOpenGamesWrong)

/-- 'laws.FnExactPlayGame': WHATEVER THE INPUT: true; the input reads as it did. -/
def fnExactPlayGameSpec : ChangeSpec := { name := "fnExactPlayGame", fn := fun _ => fun
  | [d1, d2] => { results := [.lit (.bool true)], args := [d1, d2] }
  | _ => none }
def fnExactPlayGameRow : OpenClaim := { program := "ytccjkchheanjmaa", sum := "d925d5d2583250f621afd9204afbfc1a4e9916164421fc4815e4ff178dfce6df", func := "loop.example/g00834/laws.FnExactPlayGame", spec := "fnExactPlayGame", apart := false }
def FnExactPlayGameSaid : Prop := fnExactPlayGameRow.holds Try.pinned (OpenSpec.ofChange fnExactPlayGameSpec)

/-- ITS FALSE NEIGHBOUR: 'it returns false'. Refute it at one input. -/
def fnExactPlayGameWrong : ChangeSpec := { name := "fnExactPlayGame", fn := fun _ => fun
  | [d1, d2] => { results := [.lit (.bool false)], args := [d1, d2] }
  | _ => none }
def FnExactPlayGameWrongFalsely : Prop := fnExactPlayGameRow.holds Try.pinned (OpenSpec.ofChange fnExactPlayGameWrong)

/-- 'laws.FnExactGamesBetween': WHATEVER THE INPUT: true; the input reads as it did. -/
def fnExactGamesBetweenSpec : ChangeSpec := { name := "fnExactGamesBetween", fn := fun _ => fun
  | [d1, d2, d3] => { results := [.lit (.bool true)], args := [d1, d2, d3] }
  | _ => none }
def fnExactGamesBetweenRow : OpenClaim := { program := "ytccjkchheanjmaa", sum := "d925d5d2583250f621afd9204afbfc1a4e9916164421fc4815e4ff178dfce6df", func := "loop.example/g00834/laws.FnExactGamesBetween", spec := "fnExactGamesBetween", unfollowed := true, recurses := true, apart := false }
def FnExactGamesBetweenSaid : Prop := fnExactGamesBetweenRow.holds Try.pinned (OpenSpec.ofChange fnExactGamesBetweenSpec)

/-- ITS FALSE NEIGHBOUR: 'it returns false'. Refute it at one input. -/
def fnExactGamesBetweenWrong : ChangeSpec := { name := "fnExactGamesBetween", fn := fun _ => fun
  | [d1, d2, d3] => { results := [.lit (.bool false)], args := [d1, d2, d3] }
  | _ => none }
def FnExactGamesBetweenWrongFalsely : Prop := fnExactGamesBetweenRow.holds Try.pinned (OpenSpec.ofChange fnExactGamesBetweenWrong)

/- THE SECOND FORM. 'bulk': how many values and letters a reading holds, each counted each time it is reached (what is shared counts as often as it is met; a slice's spare places count too). A statement '..UptoSaid' is the law's where the arguments, and the package variables that the reading takes, are together of bulk at most 1048576: NARROWER than '..Said'. Prove '..Said' where nothing that the law and all that it calls make is longer than what came in: it says more and counts as full. Else prove '..UptoSaid'. A law counts once. -/
mutual
def uptoBulk {H : Type} : DataW H → Nat
  | .lit (.string bytes) => bytes.length + 1
  | .lit _ => 1
  | .nil => 1
  | .ptr d => uptoBulk d + 1
  | .slice elems spare => uptoBulkAll elems + uptoBulkAll spare + 1
  | .agg parts => uptoBulkAll parts + 1
  | .iface _ d => uptoBulk d + 1
  | .map entries => uptoBulkEntries entries + 1
  | .held _ => 1
def uptoBulkAll {H : Type} : List (DataW H) → Nat
  | [] => 0
  | d :: r => uptoBulk d + uptoBulkAll r
def uptoBulkEntries {H : Type} : List (Lit × DataW H) → Nat
  | [] => 0
  | x :: r => uptoBulkEntry x + uptoBulkEntries r
def uptoBulkEntry {H : Type} : Lit × DataW H → Nat
  | (.string bytes, d) => bytes.length + uptoBulk d + 1
  | (_, d) => uptoBulk d + 1
 end
def uptoSmall : (H : Type) → List (DataW H) → Bool := fun _ ds => decide (uptoBulkAll ds ≤ 1048576)
def OpenSpec.upto (s : _root_.Go.ChangeSpec) : _root_.Go.OpenSpec := { _root_.Go.OpenSpec.ofChange s with cond := some uptoSmall }

/-- 'laws.FnGames', WHERE WHAT IT READS IS OF BULK AT MOST 1048576: true; the input reads as it did. -/
def fnGamesUptoRow : OpenClaim := { program := "ytccjkchheanjmaa", sum := "d925d5d2583250f621afd9204afbfc1a4e9916164421fc4815e4ff178dfce6df", func := "loop.example/g00834/laws.FnGames", spec := "fnGames", unfollowed := true, recurses := true, apart := false, narrowed := true }
def FnGamesUptoSaid : Prop := fnGamesUptoRow.holds Try.pinned (OpenSpec.upto fnGamesSpec)

/-- 'laws.FnExactGameOk', WHERE WHAT IT READS IS OF BULK AT MOST 1048576: true; the input reads as it did. -/
def fnExactGameOkUptoRow : OpenClaim := { program := "ytccjkchheanjmaa", sum := "d925d5d2583250f621afd9204afbfc1a4e9916164421fc4815e4ff178dfce6df", func := "loop.example/g00834/laws.FnExactGameOk", spec := "fnExactGameOk", apart := false, narrowed := true }
def FnExactGameOkUptoSaid : Prop := fnExactGameOkUptoRow.holds Try.pinned (OpenSpec.upto fnExactGameOkSpec)

/-- 'laws.FnExactSeasonOk', WHERE WHAT IT READS IS OF BULK AT MOST 1048576: true; the input reads as it did. -/
def fnExactSeasonOkUptoRow : OpenClaim := { program := "ytccjkchheanjmaa", sum := "d925d5d2583250f621afd9204afbfc1a4e9916164421fc4815e4ff178dfce6df", func := "loop.example/g00834/laws.FnExactSeasonOk", spec := "fnExactSeasonOk", apart := false, narrowed := true }
def FnExactSeasonOkUptoSaid : Prop := fnExactSeasonOkUptoRow.holds Try.pinned (OpenSpec.upto fnExactSeasonOkSpec)

/-- 'laws.FnExactGoalsOf', WHERE WHAT IT READS IS OF BULK AT MOST 1048576: true; the input reads as it did. -/
def fnExactGoalsOfUptoRow : OpenClaim := { program := "ytccjkchheanjmaa", sum := "d925d5d2583250f621afd9204afbfc1a4e9916164421fc4815e4ff178dfce6df", func := "loop.example/g00834/laws.FnExactGoalsOf", spec := "fnExactGoalsOf", apart := false, narrowed := true }
def FnExactGoalsOfUptoSaid : Prop := fnExactGoalsOfUptoRow.holds Try.pinned (OpenSpec.upto fnExactGoalsOfSpec)

/-- 'laws.FnExactOutcomeOf', WHERE WHAT IT READS IS OF BULK AT MOST 1048576: true; the input reads as it did. -/
def fnExactOutcomeOfUptoRow : OpenClaim := { program := "ytccjkchheanjmaa", sum := "d925d5d2583250f621afd9204afbfc1a4e9916164421fc4815e4ff178dfce6df", func := "loop.example/g00834/laws.FnExactOutcomeOf", spec := "fnExactOutcomeOf", apart := false, narrowed := true }
def FnExactOutcomeOfUptoSaid : Prop := fnExactOutcomeOfUptoRow.holds Try.pinned (OpenSpec.upto fnExactOutcomeOfSpec)

/-- 'laws.FnExactIsOpen', WHERE WHAT IT READS IS OF BULK AT MOST 1048576: true; the input reads as it did. -/
def fnExactIsOpenUptoRow : OpenClaim := { program := "ytccjkchheanjmaa", sum := "d925d5d2583250f621afd9204afbfc1a4e9916164421fc4815e4ff178dfce6df", func := "loop.example/g00834/laws.FnExactIsOpen", spec := "fnExactIsOpen", apart := false, narrowed := true }
def FnExactIsOpenUptoSaid : Prop := fnExactIsOpenUptoRow.holds Try.pinned (OpenSpec.upto fnExactIsOpenSpec)

/-- 'laws.FnExactGameOf', WHERE WHAT IT READS IS OF BULK AT MOST 1048576: true; the input reads as it did. -/
def fnExactGameOfUptoRow : OpenClaim := { program := "ytccjkchheanjmaa", sum := "d925d5d2583250f621afd9204afbfc1a4e9916164421fc4815e4ff178dfce6df", func := "loop.example/g00834/laws.FnExactGameOf", spec := "fnExactGameOf", unfollowed := true, recurses := true, apart := false, narrowed := true }
def FnExactGameOfUptoSaid : Prop := fnExactGameOfUptoRow.holds Try.pinned (OpenSpec.upto fnExactGameOfSpec)

/-- 'laws.FnExactOpenGames', WHERE WHAT IT READS IS OF BULK AT MOST 1048576: true; the input reads as it did. -/
def fnExactOpenGamesUptoRow : OpenClaim := { program := "ytccjkchheanjmaa", sum := "d925d5d2583250f621afd9204afbfc1a4e9916164421fc4815e4ff178dfce6df", func := "loop.example/g00834/laws.FnExactOpenGames", spec := "fnExactOpenGames", unfollowed := true, recurses := true, apart := false, narrowed := true }
def FnExactOpenGamesUptoSaid : Prop := fnExactOpenGamesUptoRow.holds Try.pinned (OpenSpec.upto fnExactOpenGamesSpec)

/-- 'laws.FnExactPlayGame', WHERE WHAT IT READS IS OF BULK AT MOST 1048576: true; the input reads as it did. -/
def fnExactPlayGameUptoRow : OpenClaim := { program := "ytccjkchheanjmaa", sum := "d925d5d2583250f621afd9204afbfc1a4e9916164421fc4815e4ff178dfce6df", func := "loop.example/g00834/laws.FnExactPlayGame", spec := "fnExactPlayGame", apart := false, narrowed := true }
def FnExactPlayGameUptoSaid : Prop := fnExactPlayGameUptoRow.holds Try.pinned (OpenSpec.upto fnExactPlayGameSpec)

/-- 'laws.FnExactGamesBetween', WHERE WHAT IT READS IS OF BULK AT MOST 1048576: true; the input reads as it did. -/
def fnExactGamesBetweenUptoRow : OpenClaim := { program := "ytccjkchheanjmaa", sum := "d925d5d2583250f621afd9204afbfc1a4e9916164421fc4815e4ff178dfce6df", func := "loop.example/g00834/laws.FnExactGamesBetween", spec := "fnExactGamesBetween", unfollowed := true, recurses := true, apart := false, narrowed := true }
def FnExactGamesBetweenUptoSaid : Prop := fnExactGamesBetweenUptoRow.holds Try.pinned (OpenSpec.upto fnExactGamesBetweenSpec)

end Rows
end Go.Proofs.Ytccjkchheanjmaa
