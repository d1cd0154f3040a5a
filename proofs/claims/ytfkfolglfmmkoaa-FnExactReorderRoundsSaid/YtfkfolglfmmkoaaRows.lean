/-
  No cell of these rows narrows 'for every input' (looked for: loops, veiled, ifaces, maps, wideKeys, modest, calm, conditions, laid).
  DERIVED. THE GIVEN ROWS OF THIS SEAT. 8 by the template 'for every input the law returns true; each argument reads behind the call as it read before'; 0 by the template 'total and deterministic' (their statements: YtfkfolglfmmkoaaTotals.lean).
  GIVEN WITH THE SEED: the statements are not yours to turn. If you find one false, say at which input.
  Laid BY PROGRAM, IN A SANDBOX (cutbox-rows.mjs): the forced cells as the released guide's own fill.sh prints them over the translation 41b4c723a534df19… (all of the seat's roots in one cut). By AI agents, Wed Nov 11 2026. No macro, syntax, notation, axiom, sorry.
-/
import Derived.Test.YtfkfolglfmmkoaaChecked
import GoSem.Claim
import GoSem.ClaimJoined
import GoSem.ClaimMapViews
import Derived.JoinedTies
import Derived.KernelRfl
namespace Go.Proofs.Ytfkfolglfmmkoaa
/- THE CELL 'sum', in the pinned program and in every row, IS THE sha256 OF THE DUMP (.gsa) THAT YtfkfolglfmmkoaaProg.lean LOADS. Nothing in Lean hashes anything: it is a label: what it is worth is what the hold of that sum in a sandbox is worth. -/
noncomputable def Try.pinned : Pinned := { name := "ytfkfolglfmmkoaa", sum := "41b4c723a534df19421001215b416c9eb283da84460a834b8f49f3e2011608ff", checked := Try.checked }
namespace Rows
def none {H : Type} : Left H := { results := [], args := [] }

/-- 'laws.FnTrips': WHATEVER THE INPUT: true; the input reads as it did. -/
def fnTripsSpec : ChangeSpec := { name := "fnTrips", fn := fun _ => fun
  | [d] => { results := [.lit (.bool true)], args := [d] }
  | _ => none }
def fnTripsRow : OpenClaim := { program := "ytfkfolglfmmkoaa", sum := "41b4c723a534df19421001215b416c9eb283da84460a834b8f49f3e2011608ff", func := "loop.example/g00834/laws.FnTrips", spec := "fnTrips", inPlace := ["(*sync.WaitGroup).Add", "internal/race.ReleaseMerge", "internal/race.Disable", "internal/race.Enable", "internal/synctest.IsInBubble", "internal/synctest.Associate[sync.WaitGroup]", "sync.fatal", "sync/atomic.OrUint64", "sync/atomic.AddUint64", "internal/race.Read", "sync/atomic.LoadUint64", "sync/atomic.StoreUint64", "internal/synctest.Disassociate[sync.WaitGroup]", "sync.runtime_Semrelease", "(*sync.WaitGroup).Done", "(*sync.WaitGroup).Wait", "internal/race.Acquire", "internal/synctest.IsAssociated[sync.WaitGroup]", "sync/atomic.CompareAndSwapUint64", "internal/race.Write", "sync.runtime_SemacquireWaitGroup"], unfollowed := true, recurses := true, leaving := true, apart := false }
def FnTripsSaid : Prop := fnTripsRow.holds Try.pinned (OpenSpec.ofChange fnTripsSpec)

/-- ITS FALSE NEIGHBOUR: 'it returns false'. Refute it at one input. -/
def fnTripsWrong : ChangeSpec := { name := "fnTrips", fn := fun _ => fun
  | [d] => { results := [.lit (.bool false)], args := [d] }
  | _ => none }
def FnTripsWrongFalsely : Prop := fnTripsRow.holds Try.pinned (OpenSpec.ofChange fnTripsWrong)

/-- 'laws.FnExactMapOk': WHATEVER THE INPUT: true; the input reads as it did. -/
def fnExactMapOkSpec : ChangeSpec := { name := "fnExactMapOk", fn := fun _ => fun
  | [d] => { results := [.lit (.bool true)], args := [d] }
  | _ => none }
def fnExactMapOkRow : OpenClaim := { program := "ytfkfolglfmmkoaa", sum := "41b4c723a534df19421001215b416c9eb283da84460a834b8f49f3e2011608ff", func := "loop.example/g00834/laws.FnExactMapOk", spec := "fnExactMapOk", unfollowed := true, recurses := true, leaving := true, apart := false }
def FnExactMapOkSaid : Prop := fnExactMapOkRow.holds Try.pinned (OpenSpec.ofChange fnExactMapOkSpec)

/-- ITS FALSE NEIGHBOUR: 'it returns false'. Refute it at one input. -/
def fnExactMapOkWrong : ChangeSpec := { name := "fnExactMapOk", fn := fun _ => fun
  | [d] => { results := [.lit (.bool false)], args := [d] }
  | _ => none }
def FnExactMapOkWrongFalsely : Prop := fnExactMapOkRow.holds Try.pinned (OpenSpec.ofChange fnExactMapOkWrong)

/-- 'laws.FnExactDistanceOf': WHATEVER THE INPUT: true; the input reads as it did. -/
def fnExactDistanceOfSpec : ChangeSpec := { name := "fnExactDistanceOf", fn := fun _ => fun
  | [d1, d2, d3] => { results := [.lit (.bool true)], args := [d1, d2, d3] }
  | _ => none }
def fnExactDistanceOfRow : OpenClaim := { program := "ytfkfolglfmmkoaa", sum := "41b4c723a534df19421001215b416c9eb283da84460a834b8f49f3e2011608ff", func := "loop.example/g00834/laws.FnExactDistanceOf", spec := "fnExactDistanceOf", unfollowed := true, recurses := true, leaving := true, apart := false }
def FnExactDistanceOfSaid : Prop := fnExactDistanceOfRow.holds Try.pinned (OpenSpec.ofChange fnExactDistanceOfSpec)

/-- ITS FALSE NEIGHBOUR: 'it returns false'. Refute it at one input. -/
def fnExactDistanceOfWrong : ChangeSpec := { name := "fnExactDistanceOf", fn := fun _ => fun
  | [d1, d2, d3] => { results := [.lit (.bool false)], args := [d1, d2, d3] }
  | _ => none }
def FnExactDistanceOfWrongFalsely : Prop := fnExactDistanceOfRow.holds Try.pinned (OpenSpec.ofChange fnExactDistanceOfWrong)

/-- 'laws.FnExactTripOf': WHATEVER THE INPUT: true; the input reads as it did. -/
def fnExactTripOfSpec : ChangeSpec := { name := "fnExactTripOf", fn := fun _ => fun
  | [d1, d2, d3] => { results := [.lit (.bool true)], args := [d1, d2, d3] }
  | _ => none }
def fnExactTripOfRow : OpenClaim := { program := "ytfkfolglfmmkoaa", sum := "41b4c723a534df19421001215b416c9eb283da84460a834b8f49f3e2011608ff", func := "loop.example/g00834/laws.FnExactTripOf", spec := "fnExactTripOf", unfollowed := true, recurses := true, leaving := true, apart := false }
def FnExactTripOfSaid : Prop := fnExactTripOfRow.holds Try.pinned (OpenSpec.ofChange fnExactTripOfSpec)

/-- ITS FALSE NEIGHBOUR: 'it returns false'. Refute it at one input. -/
def fnExactTripOfWrong : ChangeSpec := { name := "fnExactTripOf", fn := fun _ => fun
  | [d1, d2, d3] => { results := [.lit (.bool false)], args := [d1, d2, d3] }
  | _ => none }
def FnExactTripOfWrongFalsely : Prop := fnExactTripOfRow.holds Try.pinned (OpenSpec.ofChange fnExactTripOfWrong)

/-- 'laws.FnExactTotalTravel': WHATEVER THE INPUT: true; the input reads as it did. -/
def fnExactTotalTravelSpec : ChangeSpec := { name := "fnExactTotalTravel", fn := fun _ => fun
  | [d1, d2] => { results := [.lit (.bool true)], args := [d1, d2] }
  | _ => none }
def fnExactTotalTravelRow : OpenClaim := { program := "ytfkfolglfmmkoaa", sum := "41b4c723a534df19421001215b416c9eb283da84460a834b8f49f3e2011608ff", func := "loop.example/g00834/laws.FnExactTotalTravel", spec := "fnExactTotalTravel", unfollowed := true, recurses := true, leaving := true, apart := false }
def FnExactTotalTravelSaid : Prop := fnExactTotalTravelRow.holds Try.pinned (OpenSpec.ofChange fnExactTotalTravelSpec)

/-- ITS FALSE NEIGHBOUR: 'it returns false'. Refute it at one input. -/
def fnExactTotalTravelWrong : ChangeSpec := { name := "fnExactTotalTravel", fn := fun _ => fun
  | [d1, d2] => { results := [.lit (.bool false)], args := [d1, d2] }
  | _ => none }
def FnExactTotalTravelWrongFalsely : Prop := fnExactTotalTravelRow.holds Try.pinned (OpenSpec.ofChange fnExactTotalTravelWrong)

/-- 'laws.FnExactTravelFloor': WHATEVER THE INPUT: true; the input reads as it did. -/
def fnExactTravelFloorSpec : ChangeSpec := { name := "fnExactTravelFloor", fn := fun _ => fun
  | [d1, d2] => { results := [.lit (.bool true)], args := [d1, d2] }
  | _ => none }
def fnExactTravelFloorRow : OpenClaim := { program := "ytfkfolglfmmkoaa", sum := "41b4c723a534df19421001215b416c9eb283da84460a834b8f49f3e2011608ff", func := "loop.example/g00834/laws.FnExactTravelFloor", spec := "fnExactTravelFloor", unfollowed := true, recurses := true, leaving := true, apart := false }
def FnExactTravelFloorSaid : Prop := fnExactTravelFloorRow.holds Try.pinned (OpenSpec.ofChange fnExactTravelFloorSpec)

/-- ITS FALSE NEIGHBOUR: 'it returns false'. Refute it at one input. -/
def fnExactTravelFloorWrong : ChangeSpec := { name := "fnExactTravelFloor", fn := fun _ => fun
  | [d1, d2] => { results := [.lit (.bool false)], args := [d1, d2] }
  | _ => none }
def FnExactTravelFloorWrongFalsely : Prop := fnExactTravelFloorRow.holds Try.pinned (OpenSpec.ofChange fnExactTravelFloorWrong)

/-- 'laws.FnExactReorderRounds': WHATEVER THE INPUT: true; the input reads as it did. -/
def fnExactReorderRoundsSpec : ChangeSpec := { name := "fnExactReorderRounds", fn := fun _ => fun
  | [d1, d2] => { results := [.lit (.bool true)], args := [d1, d2] }
  | _ => none }
def fnExactReorderRoundsRow : OpenClaim := { program := "ytfkfolglfmmkoaa", sum := "41b4c723a534df19421001215b416c9eb283da84460a834b8f49f3e2011608ff", func := "loop.example/g00834/laws.FnExactReorderRounds", spec := "fnExactReorderRounds", apart := false }
def FnExactReorderRoundsSaid : Prop := fnExactReorderRoundsRow.holds Try.pinned (OpenSpec.ofChange fnExactReorderRoundsSpec)

/-- ITS FALSE NEIGHBOUR: 'it returns false'. Refute it at one input. -/
def fnExactReorderRoundsWrong : ChangeSpec := { name := "fnExactReorderRounds", fn := fun _ => fun
  | [d1, d2] => { results := [.lit (.bool false)], args := [d1, d2] }
  | _ => none }
def FnExactReorderRoundsWrongFalsely : Prop := fnExactReorderRoundsRow.holds Try.pinned (OpenSpec.ofChange fnExactReorderRoundsWrong)

/-- 'laws.FnExactBestOrder': WHATEVER THE INPUT: true; the input reads as it did. -/
def fnExactBestOrderSpec : ChangeSpec := { name := "fnExactBestOrder", fn := fun _ => fun
  | [d1, d2] => { results := [.lit (.bool true)], args := [d1, d2] }
  | _ => none }
def fnExactBestOrderRow : OpenClaim := { program := "ytfkfolglfmmkoaa", sum := "41b4c723a534df19421001215b416c9eb283da84460a834b8f49f3e2011608ff", func := "loop.example/g00834/laws.FnExactBestOrder", spec := "fnExactBestOrder", inPlace := ["(*sync.WaitGroup).Add", "internal/race.ReleaseMerge", "internal/race.Disable", "internal/race.Enable", "internal/synctest.IsInBubble", "internal/synctest.Associate[sync.WaitGroup]", "sync.fatal", "sync/atomic.OrUint64", "sync/atomic.AddUint64", "internal/race.Read", "sync/atomic.LoadUint64", "sync/atomic.StoreUint64", "internal/synctest.Disassociate[sync.WaitGroup]", "sync.runtime_Semrelease", "(*sync.WaitGroup).Done", "(*sync.WaitGroup).Wait", "internal/race.Acquire", "internal/synctest.IsAssociated[sync.WaitGroup]", "sync/atomic.CompareAndSwapUint64", "internal/race.Write", "sync.runtime_SemacquireWaitGroup"], unfollowed := true, recurses := true, leaving := true, apart := false }
def FnExactBestOrderSaid : Prop := fnExactBestOrderRow.holds Try.pinned (OpenSpec.ofChange fnExactBestOrderSpec)

/-- ITS FALSE NEIGHBOUR: 'it returns false'. Refute it at one input. -/
def fnExactBestOrderWrong : ChangeSpec := { name := "fnExactBestOrder", fn := fun _ => fun
  | [d1, d2] => { results := [.lit (.bool false)], args := [d1, d2] }
  | _ => none }
def FnExactBestOrderWrongFalsely : Prop := fnExactBestOrderRow.holds Try.pinned (OpenSpec.ofChange fnExactBestOrderWrong)

/- THE SECOND FORM. 'bulk': how many values and letters a reading holds, each counted each time it is reached (what is shared counts as often as it is met; a slice's spare places count too). A statement '..UptoSaid' is the law's where the arguments, and the package variables that the reading takes, are together of bulk at most 1048576: NARROWER than '..Said'. Prove '..Said' where nothing that the law and all that it calls make is longer than what came in: it says more and counts as full. Else prove '..UptoSaid'. A law counts once. -/
mutual
def uptoBulk {H : Type} : DataW H → Nat
  | .lit (.string bytes) => bytes.length + 1
  | .lit _ => 1
  | .nil => 1
  | .ptr d => uptoBulk d + 1
  | .slice elems spare => uptoBulkAll elems + uptoBulkAll spare + 1
  | .agg parts => uptoBulkAll parts + 1
  | .iface _ d => uptoBulk d + 1
  | .map entries => uptoBulkEntries entries + 1
  | .held _ => 1
def uptoBulkAll {H : Type} : List (DataW H) → Nat
  | [] => 0
  | d :: r => uptoBulk d + uptoBulkAll r
def uptoBulkEntries {H : Type} : List (Lit × DataW H) → Nat
  | [] => 0
  | x :: r => uptoBulkEntry x + uptoBulkEntries r
def uptoBulkEntry {H : Type} : Lit × DataW H → Nat
  | (.string bytes, d) => bytes.length + uptoBulk d + 1
  | (_, d) => uptoBulk d + 1
 end
def uptoSmall : (H : Type) → List (DataW H) → Bool := fun _ ds => decide (uptoBulkAll ds ≤ 1048576)
def OpenSpec.upto (s : _root_.Go.ChangeSpec) : _root_.Go.OpenSpec := { _root_.Go.OpenSpec.ofChange s with cond := some uptoSmall }

/-- 'laws.FnTrips', WHERE WHAT IT READS IS OF BULK AT MOST 1048576: true; the input reads as it did. -/
def fnTripsUptoRow : OpenClaim := { program := "ytfkfolglfmmkoaa", sum := "41b4c723a534df19421001215b416c9eb283da84460a834b8f49f3e2011608ff", func := "loop.example/g00834/laws.FnTrips", spec := "fnTrips", inPlace := ["(*sync.WaitGroup).Add", "internal/race.ReleaseMerge", "internal/race.Disable", "internal/race.Enable", "internal/synctest.IsInBubble", "internal/synctest.Associate[sync.WaitGroup]", "sync.fatal", "sync/atomic.OrUint64", "sync/atomic.AddUint64", "internal/race.Read", "sync/atomic.LoadUint64", "sync/atomic.StoreUint64", "internal/synctest.Disassociate[sync.WaitGroup]", "sync.runtime_Semrelease", "(*sync.WaitGroup).Done", "(*sync.WaitGroup).Wait", "internal/race.Acquire", "internal/synctest.IsAssociated[sync.WaitGroup]", "sync/atomic.CompareAndSwapUint64", "internal/race.Write", "sync.runtime_SemacquireWaitGroup"], unfollowed := true, recurses := true, leaving := true, apart := false, narrowed := true }
def FnTripsUptoSaid : Prop := fnTripsUptoRow.holds Try.pinned (OpenSpec.upto fnTripsSpec)

/-- 'laws.FnExactMapOk', WHERE WHAT IT READS IS OF BULK AT MOST 1048576: true; the input reads as it did. -/
def fnExactMapOkUptoRow : OpenClaim := { program := "ytfkfolglfmmkoaa", sum := "41b4c723a534df19421001215b416c9eb283da84460a834b8f49f3e2011608ff", func := "loop.example/g00834/laws.FnExactMapOk", spec := "fnExactMapOk", unfollowed := true, recurses := true, leaving := true, apart := false, narrowed := true }
def FnExactMapOkUptoSaid : Prop := fnExactMapOkUptoRow.holds Try.pinned (OpenSpec.upto fnExactMapOkSpec)

/-- 'laws.FnExactDistanceOf', WHERE WHAT IT READS IS OF BULK AT MOST 1048576: true; the input reads as it did. -/
def fnExactDistanceOfUptoRow : OpenClaim := { program := "ytfkfolglfmmkoaa", sum := "41b4c723a534df19421001215b416c9eb283da84460a834b8f49f3e2011608ff", func := "loop.example/g00834/laws.FnExactDistanceOf", spec := "fnExactDistanceOf", unfollowed := true, recurses := true, leaving := true, apart := false, narrowed := true }
def FnExactDistanceOfUptoSaid : Prop := fnExactDistanceOfUptoRow.holds Try.pinned (OpenSpec.upto fnExactDistanceOfSpec)

/-- 'laws.FnExactTripOf', WHERE WHAT IT READS IS OF BULK AT MOST 1048576: true; the input reads as it did. -/
def fnExactTripOfUptoRow : OpenClaim := { program := "ytfkfolglfmmkoaa", sum := "41b4c723a534df19421001215b416c9eb283da84460a834b8f49f3e2011608ff", func := "loop.example/g00834/laws.FnExactTripOf", spec := "fnExactTripOf", unfollowed := true, recurses := true, leaving := true, apart := false, narrowed := true }
def FnExactTripOfUptoSaid : Prop := fnExactTripOfUptoRow.holds Try.pinned (OpenSpec.upto fnExactTripOfSpec)

/-- 'laws.FnExactTotalTravel', WHERE WHAT IT READS IS OF BULK AT MOST 1048576: true; the input reads as it did. -/
def fnExactTotalTravelUptoRow : OpenClaim := { program := "ytfkfolglfmmkoaa", sum := "41b4c723a534df19421001215b416c9eb283da84460a834b8f49f3e2011608ff", func := "loop.example/g00834/laws.FnExactTotalTravel", spec := "fnExactTotalTravel", unfollowed := true, recurses := true, leaving := true, apart := false, narrowed := true }
def FnExactTotalTravelUptoSaid : Prop := fnExactTotalTravelUptoRow.holds Try.pinned (OpenSpec.upto fnExactTotalTravelSpec)

/-- 'laws.FnExactTravelFloor', WHERE WHAT IT READS IS OF BULK AT MOST 1048576: true; the input reads as it did. -/
def fnExactTravelFloorUptoRow : OpenClaim := { program := "ytfkfolglfmmkoaa", sum := "41b4c723a534df19421001215b416c9eb283da84460a834b8f49f3e2011608ff", func := "loop.example/g00834/laws.FnExactTravelFloor", spec := "fnExactTravelFloor", unfollowed := true, recurses := true, leaving := true, apart := false, narrowed := true }
def FnExactTravelFloorUptoSaid : Prop := fnExactTravelFloorUptoRow.holds Try.pinned (OpenSpec.upto fnExactTravelFloorSpec)

/-- 'laws.FnExactReorderRounds', WHERE WHAT IT READS IS OF BULK AT MOST 1048576: true; the input reads as it did. -/
def fnExactReorderRoundsUptoRow : OpenClaim := { program := "ytfkfolglfmmkoaa", sum := "41b4c723a534df19421001215b416c9eb283da84460a834b8f49f3e2011608ff", func := "loop.example/g00834/laws.FnExactReorderRounds", spec := "fnExactReorderRounds", apart := false, narrowed := true }
def FnExactReorderRoundsUptoSaid : Prop := fnExactReorderRoundsUptoRow.holds Try.pinned (OpenSpec.upto fnExactReorderRoundsSpec)

/-- 'laws.FnExactBestOrder', WHERE WHAT IT READS IS OF BULK AT MOST 1048576: true; the input reads as it did. -/
def fnExactBestOrderUptoRow : OpenClaim := { program := "ytfkfolglfmmkoaa", sum := "41b4c723a534df19421001215b416c9eb283da84460a834b8f49f3e2011608ff", func := "loop.example/g00834/laws.FnExactBestOrder", spec := "fnExactBestOrder", inPlace := ["(*sync.WaitGroup).Add", "internal/race.ReleaseMerge", "internal/race.Disable", "internal/race.Enable", "internal/synctest.IsInBubble", "internal/synctest.Associate[sync.WaitGroup]", "sync.fatal", "sync/atomic.OrUint64", "sync/atomic.AddUint64", "internal/race.Read", "sync/atomic.LoadUint64", "sync/atomic.StoreUint64", "internal/synctest.Disassociate[sync.WaitGroup]", "sync.runtime_Semrelease", "(*sync.WaitGroup).Done", "(*sync.WaitGroup).Wait", "internal/race.Acquire", "internal/synctest.IsAssociated[sync.WaitGroup]", "sync/atomic.CompareAndSwapUint64", "internal/race.Write", "sync.runtime_SemacquireWaitGroup"], unfollowed := true, recurses := true, leaving := true, apart := false, narrowed := true }
def FnExactBestOrderUptoSaid : Prop := fnExactBestOrderUptoRow.holds Try.pinned (OpenSpec.upto fnExactBestOrderSpec)

end Rows
end Go.Proofs.Ytfkfolglfmmkoaa
