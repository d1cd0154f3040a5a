/-
  NARROWER THAN 'FOR EVERY INPUT', by the rows' own cells (each row's printed sentence says how): FnCalendars: ifaces, laid · FnExactFirstCalendar: ifaces, laid · FnExactBlockedRounds: ifaces, laid.
  DERIVED. THE GIVEN ROWS OF THIS SEAT. 3 by the template 'for every input the law returns true; each argument reads behind the call as it read before'; 0 by the template 'total and deterministic' (their statements: YtcbpgbiannpfpaaDoorTotals.lean).
  GIVEN WITH THE SEED: the statements are not yours to turn. If you find one false, say at which input.
  Laid BY PROGRAM, IN A SANDBOX (cutbox-rows.mjs): the forced cells as the released guide's own fill.sh prints them over the translation 7dc2eeaa6ff70711… (all of the seat's roots in one cut). By AI agents, Wed Nov 11 2026. No macro, syntax, notation, axiom, sorry.
-/
import Derived.Test.YtcbpgbiannpfpaaDoorChecked
import GoSem.Claim
import GoSem.ClaimJoined
import GoSem.ClaimMapViews
import Derived.JoinedTies
import Derived.KernelRfl
namespace Go.Proofs.YtcbpgbiannpfpaaDoor
/- THE CELL 'sum', in the pinned program and in every row, IS THE sha256 OF THE DUMP (.gsa) THAT YtcbpgbiannpfpaaDoorProg.lean LOADS. Nothing in Lean hashes anything: it is a label: what it is worth is what the hold of that sum in a sandbox is worth. -/
noncomputable def Tryd.pinned : Pinned := { name := "ytcbpgbiannpfpaadoor", sum := "7dc2eeaa6ff70711cfc1f672103b093f823b2d12830dbd1bd64e60b9ad154a86", checked := Tryd.checked }
namespace Rows
def none {H : Type} : Left H := { results := [], args := [] }

/- WHAT THE LISTED PACKAGE-LEVEL VARIABLES READ AS WHEN THE CALL BEGINS. Each datum BY PROGRAM (the guide's laid-datum.mjs) off the statement by which the dump's own 'gosem.cut.vars' lays the variable. In a bare row this is a premise. The card (YtcbpgbiannpfpaaDoorCards.lean) ties it to the program's text. -/
def laid_loop_example_g00834_impl_errNoDay {H : Type} : DataW H := .iface "*errors.errorString" (.ptr (.agg [.lit (.string [116, 104, 101, 32, 114, 111, 117, 110, 100, 32, 99, 97, 110, 32, 98, 101, 32, 112, 108, 97, 121, 101, 100, 32, 111, 110, 32, 110, 111, 110, 101, 32, 111, 102, 32, 116, 104, 101, 32, 100, 97, 121, 115])]))

/-- 'laws.FnCalendars': WHATEVER THE INPUT: true; the input reads as it did. -/
def fnCalendarsSpec : ChangeSpec := { name := "fnCalendars", vars := ["loop.example/g00834/impl.errNoDay"], fn := fun _ => fun
  | [d, g1] => { results := [.lit (.bool true)], args := [d], vars := [g1] }
  | _ => none }
def fnCalendarsRow : OpenClaim := { program := "ytcbpgbiannpfpaadoor", sum := "7dc2eeaa6ff70711cfc1f672103b093f823b2d12830dbd1bd64e60b9ad154a86", func := "loop.example/g00834/laws.FnCalendars", spec := "fnCalendars", inPlace := ["internal/reflectlite.TypeOf"], unfollowed := true, recurses := true, named := ["loop.example/g00834/impl.errNoDay"], ifaces := true, apart := false, laid := [("loop.example/g00834/impl.errNoDay", laid_loop_example_g00834_impl_errNoDay)] }
def FnCalendarsSaid : Prop := fnCalendarsRow.holds Tryd.pinned (OpenSpec.ofChange fnCalendarsSpec)

/-- ITS FALSE NEIGHBOUR: 'it returns false'. Refute it at one input. -/
def fnCalendarsWrong : ChangeSpec := { name := "fnCalendars", vars := ["loop.example/g00834/impl.errNoDay"], fn := fun _ => fun
  | [d, g1] => { results := [.lit (.bool false)], args := [d], vars := [g1] }
  | _ => none }
def FnCalendarsWrongFalsely : Prop := fnCalendarsRow.holds Tryd.pinned (OpenSpec.ofChange fnCalendarsWrong)

/-- 'laws.FnExactFirstCalendar': WHATEVER THE INPUT: true; the input reads as it did. -/
def fnExactFirstCalendarSpec : ChangeSpec := { name := "fnExactFirstCalendar", vars := ["loop.example/g00834/impl.errNoDay"], fn := fun _ => fun
  | [d1, d2, g1] => { results := [.lit (.bool true)], args := [d1, d2], vars := [g1] }
  | _ => none }
def fnExactFirstCalendarRow : OpenClaim := { program := "ytcbpgbiannpfpaadoor", sum := "7dc2eeaa6ff70711cfc1f672103b093f823b2d12830dbd1bd64e60b9ad154a86", func := "loop.example/g00834/laws.FnExactFirstCalendar", spec := "fnExactFirstCalendar", inPlace := ["internal/reflectlite.TypeOf"], unfollowed := true, recurses := true, named := ["loop.example/g00834/impl.errNoDay"], ifaces := true, apart := false, laid := [("loop.example/g00834/impl.errNoDay", laid_loop_example_g00834_impl_errNoDay)] }
def FnExactFirstCalendarSaid : Prop := fnExactFirstCalendarRow.holds Tryd.pinned (OpenSpec.ofChange fnExactFirstCalendarSpec)

/-- ITS FALSE NEIGHBOUR: 'it returns false'. Refute it at one input. -/
def fnExactFirstCalendarWrong : ChangeSpec := { name := "fnExactFirstCalendar", vars := ["loop.example/g00834/impl.errNoDay"], fn := fun _ => fun
  | [d1, d2, g1] => { results := [.lit (.bool false)], args := [d1, d2], vars := [g1] }
  | _ => none }
def FnExactFirstCalendarWrongFalsely : Prop := fnExactFirstCalendarRow.holds Tryd.pinned (OpenSpec.ofChange fnExactFirstCalendarWrong)

/-- 'laws.FnExactBlockedRounds': WHATEVER THE INPUT: true; the input reads as it did. -/
def fnExactBlockedRoundsSpec : ChangeSpec := { name := "fnExactBlockedRounds", vars := ["loop.example/g00834/impl.errNoDay"], fn := fun _ => fun
  | [d1, d2, g1] => { results := [.lit (.bool true)], args := [d1, d2], vars := [g1] }
  | _ => none }
def fnExactBlockedRoundsRow : OpenClaim := { program := "ytcbpgbiannpfpaadoor", sum := "7dc2eeaa6ff70711cfc1f672103b093f823b2d12830dbd1bd64e60b9ad154a86", func := "loop.example/g00834/laws.FnExactBlockedRounds", spec := "fnExactBlockedRounds", inPlace := ["internal/reflectlite.TypeOf"], unfollowed := true, recurses := true, named := ["loop.example/g00834/impl.errNoDay"], ifaces := true, apart := false, laid := [("loop.example/g00834/impl.errNoDay", laid_loop_example_g00834_impl_errNoDay)] }
def FnExactBlockedRoundsSaid : Prop := fnExactBlockedRoundsRow.holds Tryd.pinned (OpenSpec.ofChange fnExactBlockedRoundsSpec)

/-- ITS FALSE NEIGHBOUR: 'it returns false'. Refute it at one input. -/
def fnExactBlockedRoundsWrong : ChangeSpec := { name := "fnExactBlockedRounds", vars := ["loop.example/g00834/impl.errNoDay"], fn := fun _ => fun
  | [d1, d2, g1] => { results := [.lit (.bool false)], args := [d1, d2], vars := [g1] }
  | _ => none }
def FnExactBlockedRoundsWrongFalsely : Prop := fnExactBlockedRoundsRow.holds Tryd.pinned (OpenSpec.ofChange fnExactBlockedRoundsWrong)

/- THE SECOND FORM. 'bulk': how many values and letters a reading holds, each counted each time it is reached (what is shared counts as often as it is met; a slice's spare places count too). A statement '..UptoSaid' is the law's where the arguments, and the package variables that the reading takes, are together of bulk at most 1048576: NARROWER than '..Said'. Prove '..Said' where nothing that the law and all that it calls make is longer than what came in: it says more and counts as full. Else prove '..UptoSaid'. A law counts once. -/
mutual
def uptoBulk {H : Type} : DataW H → Nat
  | .lit (.string bytes) => bytes.length + 1
  | .lit _ => 1
  | .nil => 1
  | .ptr d => uptoBulk d + 1
  | .slice elems spare => uptoBulkAll elems + uptoBulkAll spare + 1
  | .agg parts => uptoBulkAll parts + 1
  | .iface _ d => uptoBulk d + 1
  | .map entries => uptoBulkEntries entries + 1
  | .held _ => 1
def uptoBulkAll {H : Type} : List (DataW H) → Nat
  | [] => 0
  | d :: r => uptoBulk d + uptoBulkAll r
def uptoBulkEntries {H : Type} : List (Lit × DataW H) → Nat
  | [] => 0
  | x :: r => uptoBulkEntry x + uptoBulkEntries r
def uptoBulkEntry {H : Type} : Lit × DataW H → Nat
  | (.string bytes, d) => bytes.length + uptoBulk d + 1
  | (_, d) => uptoBulk d + 1
 end
def uptoSmall : (H : Type) → List (DataW H) → Bool := fun _ ds => decide (uptoBulkAll ds ≤ 1048576)
def OpenSpec.upto (s : _root_.Go.ChangeSpec) : _root_.Go.OpenSpec := { _root_.Go.OpenSpec.ofChange s with cond := some uptoSmall }

/-- 'laws.FnCalendars', WHERE WHAT IT READS IS OF BULK AT MOST 1048576: true; the input reads as it did. -/
def fnCalendarsUptoRow : OpenClaim := { program := "ytcbpgbiannpfpaadoor", sum := "7dc2eeaa6ff70711cfc1f672103b093f823b2d12830dbd1bd64e60b9ad154a86", func := "loop.example/g00834/laws.FnCalendars", spec := "fnCalendars", inPlace := ["internal/reflectlite.TypeOf"], unfollowed := true, recurses := true, named := ["loop.example/g00834/impl.errNoDay"], ifaces := true, apart := false, laid := [("loop.example/g00834/impl.errNoDay", laid_loop_example_g00834_impl_errNoDay)], narrowed := true }
def FnCalendarsUptoSaid : Prop := fnCalendarsUptoRow.holds Tryd.pinned (OpenSpec.upto fnCalendarsSpec)

/-- 'laws.FnExactFirstCalendar', WHERE WHAT IT READS IS OF BULK AT MOST 1048576: true; the input reads as it did. -/
def fnExactFirstCalendarUptoRow : OpenClaim := { program := "ytcbpgbiannpfpaadoor", sum := "7dc2eeaa6ff70711cfc1f672103b093f823b2d12830dbd1bd64e60b9ad154a86", func := "loop.example/g00834/laws.FnExactFirstCalendar", spec := "fnExactFirstCalendar", inPlace := ["internal/reflectlite.TypeOf"], unfollowed := true, recurses := true, named := ["loop.example/g00834/impl.errNoDay"], ifaces := true, apart := false, laid := [("loop.example/g00834/impl.errNoDay", laid_loop_example_g00834_impl_errNoDay)], narrowed := true }
def FnExactFirstCalendarUptoSaid : Prop := fnExactFirstCalendarUptoRow.holds Tryd.pinned (OpenSpec.upto fnExactFirstCalendarSpec)

/-- 'laws.FnExactBlockedRounds', WHERE WHAT IT READS IS OF BULK AT MOST 1048576: true; the input reads as it did. -/
def fnExactBlockedRoundsUptoRow : OpenClaim := { program := "ytcbpgbiannpfpaadoor", sum := "7dc2eeaa6ff70711cfc1f672103b093f823b2d12830dbd1bd64e60b9ad154a86", func := "loop.example/g00834/laws.FnExactBlockedRounds", spec := "fnExactBlockedRounds", inPlace := ["internal/reflectlite.TypeOf"], unfollowed := true, recurses := true, named := ["loop.example/g00834/impl.errNoDay"], ifaces := true, apart := false, laid := [("loop.example/g00834/impl.errNoDay", laid_loop_example_g00834_impl_errNoDay)], narrowed := true }
def FnExactBlockedRoundsUptoSaid : Prop := fnExactBlockedRoundsUptoRow.holds Tryd.pinned (OpenSpec.upto fnExactBlockedRoundsSpec)

end Rows
end Go.Proofs.YtcbpgbiannpfpaaDoor
