/-
  No cell of these rows narrows 'for every input' (looked for: loops, veiled, ifaces, maps, wideKeys, modest, calm, conditions, laid).
  DERIVED. THE GIVEN ROWS OF THIS SEAT. 5 by the template 'for every input the law returns true; each argument reads behind the call as it read before'; 0 by the template 'total and deterministic' (their statements: YtcbpgbiannpfpaaTotals.lean).
  GIVEN WITH THE SEED: the statements are not yours to turn. If you find one false, say at which input.
  Laid BY PROGRAM, IN A SANDBOX (cutbox-rows.mjs): the forced cells as the released guide's own fill.sh prints them over the translation 0f63f3b5d5fcb6e0… (all of the seat's roots in one cut). By AI agents, Wed Nov 11 2026. No macro, syntax, notation, axiom, sorry.
-/
import Derived.Test.YtcbpgbiannpfpaaChecked
import GoSem.Claim
import GoSem.ClaimJoined
import GoSem.ClaimMapViews
import Derived.JoinedTies
import Derived.KernelRfl
namespace Go.Proofs.Ytcbpgbiannpfpaa
/- THE CELL 'sum', in the pinned program and in every row, IS THE sha256 OF THE DUMP (.gsa) THAT YtcbpgbiannpfpaaProg.lean LOADS. Nothing in Lean hashes anything: it is a label: what it is worth is what the hold of that sum in a sandbox is worth. -/
noncomputable def Try.pinned : Pinned := { name := "ytcbpgbiannpfpaa", sum := "0f63f3b5d5fcb6e03926dc1f19d433b669d5e7b62537e968c9cdd1121904a646", checked := Try.checked }
namespace Rows
def none {H : Type} : Left H := { results := [], args := [] }

/-- 'laws.FnExactClosedOk': WHATEVER THE INPUT: true; the input reads as it did. -/
def fnExactClosedOkSpec : ChangeSpec := { name := "fnExactClosedOk", fn := fun _ => fun
  | [d1, d2] => { results := [.lit (.bool true)], args := [d1, d2] }
  | _ => none }
def fnExactClosedOkRow : OpenClaim := { program := "ytcbpgbiannpfpaa", sum := "0f63f3b5d5fcb6e03926dc1f19d433b669d5e7b62537e968c9cdd1121904a646", func := "loop.example/g00834/laws.FnExactClosedOk", spec := "fnExactClosedOk", unfollowed := true, recurses := true, apart := false }
def FnExactClosedOkSaid : Prop := fnExactClosedOkRow.holds Try.pinned (OpenSpec.ofChange fnExactClosedOkSpec)

/-- ITS FALSE NEIGHBOUR: 'it returns false'. Refute it at one input. -/
def fnExactClosedOkWrong : ChangeSpec := { name := "fnExactClosedOk", fn := fun _ => fun
  | [d1, d2] => { results := [.lit (.bool false)], args := [d1, d2] }
  | _ => none }
def FnExactClosedOkWrongFalsely : Prop := fnExactClosedOkRow.holds Try.pinned (OpenSpec.ofChange fnExactClosedOkWrong)

/-- 'laws.FnExactCanPlayOn': WHATEVER THE INPUT: true; the input reads as it did. -/
def fnExactCanPlayOnSpec : ChangeSpec := { name := "fnExactCanPlayOn", fn := fun _ => fun
  | [d1, d2, d3] => { results := [.lit (.bool true)], args := [d1, d2, d3] }
  | _ => none }
def fnExactCanPlayOnRow : OpenClaim := { program := "ytcbpgbiannpfpaa", sum := "0f63f3b5d5fcb6e03926dc1f19d433b669d5e7b62537e968c9cdd1121904a646", func := "loop.example/g00834/laws.FnExactCanPlayOn", spec := "fnExactCanPlayOn", unfollowed := true, recurses := true, apart := false }
def FnExactCanPlayOnSaid : Prop := fnExactCanPlayOnRow.holds Try.pinned (OpenSpec.ofChange fnExactCanPlayOnSpec)

/-- ITS FALSE NEIGHBOUR: 'it returns false'. Refute it at one input. -/
def fnExactCanPlayOnWrong : ChangeSpec := { name := "fnExactCanPlayOn", fn := fun _ => fun
  | [d1, d2, d3] => { results := [.lit (.bool false)], args := [d1, d2, d3] }
  | _ => none }
def FnExactCanPlayOnWrongFalsely : Prop := fnExactCanPlayOnRow.holds Try.pinned (OpenSpec.ofChange fnExactCanPlayOnWrong)

/-- 'laws.FnExactIsCalendar': WHATEVER THE INPUT: true; the input reads as it did. -/
def fnExactIsCalendarSpec : ChangeSpec := { name := "fnExactIsCalendar", fn := fun _ => fun
  | [d1, d2, d3] => { results := [.lit (.bool true)], args := [d1, d2, d3] }
  | _ => none }
def fnExactIsCalendarRow : OpenClaim := { program := "ytcbpgbiannpfpaa", sum := "0f63f3b5d5fcb6e03926dc1f19d433b669d5e7b62537e968c9cdd1121904a646", func := "loop.example/g00834/laws.FnExactIsCalendar", spec := "fnExactIsCalendar", unfollowed := true, recurses := true, apart := false }
def FnExactIsCalendarSaid : Prop := fnExactIsCalendarRow.holds Try.pinned (OpenSpec.ofChange fnExactIsCalendarSpec)

/-- ITS FALSE NEIGHBOUR: 'it returns false'. Refute it at one input. -/
def fnExactIsCalendarWrong : ChangeSpec := { name := "fnExactIsCalendar", fn := fun _ => fun
  | [d1, d2, d3] => { results := [.lit (.bool false)], args := [d1, d2, d3] }
  | _ => none }
def FnExactIsCalendarWrongFalsely : Prop := fnExactIsCalendarRow.holds Try.pinned (OpenSpec.ofChange fnExactIsCalendarWrong)

/-- 'laws.FnExactLastDay': WHATEVER THE INPUT: true; the input reads as it did. -/
def fnExactLastDaySpec : ChangeSpec := { name := "fnExactLastDay", fn := fun _ => fun
  | [d] => { results := [.lit (.bool true)], args := [d] }
  | _ => none }
def fnExactLastDayRow : OpenClaim := { program := "ytcbpgbiannpfpaa", sum := "0f63f3b5d5fcb6e03926dc1f19d433b669d5e7b62537e968c9cdd1121904a646", func := "loop.example/g00834/laws.FnExactLastDay", spec := "fnExactLastDay", apart := false }
def FnExactLastDaySaid : Prop := fnExactLastDayRow.holds Try.pinned (OpenSpec.ofChange fnExactLastDaySpec)

/-- ITS FALSE NEIGHBOUR: 'it returns false'. Refute it at one input. -/
def fnExactLastDayWrong : ChangeSpec := { name := "fnExactLastDay", fn := fun _ => fun
  | [d] => { results := [.lit (.bool false)], args := [d] }
  | _ => none }
def FnExactLastDayWrongFalsely : Prop := fnExactLastDayRow.holds Try.pinned (OpenSpec.ofChange fnExactLastDayWrong)

/-- 'laws.FnExactRestOf': WHATEVER THE INPUT: true; the input reads as it did. -/
def fnExactRestOfSpec : ChangeSpec := { name := "fnExactRestOf", fn := fun _ => fun
  | [d1, d2, d3] => { results := [.lit (.bool true)], args := [d1, d2, d3] }
  | _ => none }
def fnExactRestOfRow : OpenClaim := { program := "ytcbpgbiannpfpaa", sum := "0f63f3b5d5fcb6e03926dc1f19d433b669d5e7b62537e968c9cdd1121904a646", func := "loop.example/g00834/laws.FnExactRestOf", spec := "fnExactRestOf", unfollowed := true, recurses := true, apart := false }
def FnExactRestOfSaid : Prop := fnExactRestOfRow.holds Try.pinned (OpenSpec.ofChange fnExactRestOfSpec)

/-- ITS FALSE NEIGHBOUR: 'it returns false'. Refute it at one input. -/
def fnExactRestOfWrong : ChangeSpec := { name := "fnExactRestOf", fn := fun _ => fun
  | [d1, d2, d3] => { results := [.lit (.bool false)], args := [d1, d2, d3] }
  | _ => none }
def FnExactRestOfWrongFalsely : Prop := fnExactRestOfRow.holds Try.pinned (OpenSpec.ofChange fnExactRestOfWrong)

/- THE SECOND FORM. 'bulk': how many values and letters a reading holds, each counted each time it is reached (what is shared counts as often as it is met; a slice's spare places count too). A statement '..UptoSaid' is the law's where the arguments, and the package variables that the reading takes, are together of bulk at most 1048576: NARROWER than '..Said'. Prove '..Said' where nothing that the law and all that it calls make is longer than what came in: it says more and counts as full. Else prove '..UptoSaid'. A law counts once. -/
mutual
def uptoBulk {H : Type} : DataW H → Nat
  | .lit (.string bytes) => bytes.length + 1
  | .lit _ => 1
  | .nil => 1
  | .ptr d => uptoBulk d + 1
  | .slice elems spare => uptoBulkAll elems + uptoBulkAll spare + 1
  | .agg parts => uptoBulkAll parts + 1
  | .iface _ d => uptoBulk d + 1
  | .map entries => uptoBulkEntries entries + 1
  | .held _ => 1
def uptoBulkAll {H : Type} : List (DataW H) → Nat
  | [] => 0
  | d :: r => uptoBulk d + uptoBulkAll r
def uptoBulkEntries {H : Type} : List (Lit × DataW H) → Nat
  | [] => 0
  | x :: r => uptoBulkEntry x + uptoBulkEntries r
def uptoBulkEntry {H : Type} : Lit × DataW H → Nat
  | (.string bytes, d) => bytes.length + uptoBulk d + 1
  | (_, d) => uptoBulk d + 1
 end
def uptoSmall : (H : Type) → List (DataW H) → Bool := fun _ ds => decide (uptoBulkAll ds ≤ 1048576)
def OpenSpec.upto (s : _root_.Go.ChangeSpec) : _root_.Go.OpenSpec := { _root_.Go.OpenSpec.ofChange s with cond := some uptoSmall }

/-- 'laws.FnExactClosedOk', WHERE WHAT IT READS IS OF BULK AT MOST 1048576: true; the input reads as it did. -/
def fnExactClosedOkUptoRow : OpenClaim := { program := "ytcbpgbiannpfpaa", sum := "0f63f3b5d5fcb6e03926dc1f19d433b669d5e7b62537e968c9cdd1121904a646", func := "loop.example/g00834/laws.FnExactClosedOk", spec := "fnExactClosedOk", unfollowed := true, recurses := true, apart := false, narrowed := true }
def FnExactClosedOkUptoSaid : Prop := fnExactClosedOkUptoRow.holds Try.pinned (OpenSpec.upto fnExactClosedOkSpec)

/-- 'laws.FnExactCanPlayOn', WHERE WHAT IT READS IS OF BULK AT MOST 1048576: true; the input reads as it did. -/
def fnExactCanPlayOnUptoRow : OpenClaim := { program := "ytcbpgbiannpfpaa", sum := "0f63f3b5d5fcb6e03926dc1f19d433b669d5e7b62537e968c9cdd1121904a646", func := "loop.example/g00834/laws.FnExactCanPlayOn", spec := "fnExactCanPlayOn", unfollowed := true, recurses := true, apart := false, narrowed := true }
def FnExactCanPlayOnUptoSaid : Prop := fnExactCanPlayOnUptoRow.holds Try.pinned (OpenSpec.upto fnExactCanPlayOnSpec)

/-- 'laws.FnExactIsCalendar', WHERE WHAT IT READS IS OF BULK AT MOST 1048576: true; the input reads as it did. -/
def fnExactIsCalendarUptoRow : OpenClaim := { program := "ytcbpgbiannpfpaa", sum := "0f63f3b5d5fcb6e03926dc1f19d433b669d5e7b62537e968c9cdd1121904a646", func := "loop.example/g00834/laws.FnExactIsCalendar", spec := "fnExactIsCalendar", unfollowed := true, recurses := true, apart := false, narrowed := true }
def FnExactIsCalendarUptoSaid : Prop := fnExactIsCalendarUptoRow.holds Try.pinned (OpenSpec.upto fnExactIsCalendarSpec)

/-- 'laws.FnExactLastDay', WHERE WHAT IT READS IS OF BULK AT MOST 1048576: true; the input reads as it did. -/
def fnExactLastDayUptoRow : OpenClaim := { program := "ytcbpgbiannpfpaa", sum := "0f63f3b5d5fcb6e03926dc1f19d433b669d5e7b62537e968c9cdd1121904a646", func := "loop.example/g00834/laws.FnExactLastDay", spec := "fnExactLastDay", apart := false, narrowed := true }
def FnExactLastDayUptoSaid : Prop := fnExactLastDayUptoRow.holds Try.pinned (OpenSpec.upto fnExactLastDaySpec)

/-- 'laws.FnExactRestOf', WHERE WHAT IT READS IS OF BULK AT MOST 1048576: true; the input reads as it did. -/
def fnExactRestOfUptoRow : OpenClaim := { program := "ytcbpgbiannpfpaa", sum := "0f63f3b5d5fcb6e03926dc1f19d433b669d5e7b62537e968c9cdd1121904a646", func := "loop.example/g00834/laws.FnExactRestOf", spec := "fnExactRestOf", unfollowed := true, recurses := true, apart := false, narrowed := true }
def FnExactRestOfUptoSaid : Prop := fnExactRestOfUptoRow.holds Try.pinned (OpenSpec.upto fnExactRestOfSpec)

end Rows
end Go.Proofs.Ytcbpgbiannpfpaa
