/-
  No cell of these rows narrows 'for every input' (looked for: loops, veiled, ifaces, maps, wideKeys, modest, calm, conditions, laid).
  DERIVED. THE GIVEN ROWS OF THIS SEAT. 9 by the template 'for every input the law returns true; each argument reads behind the call as it read before'; 0 by the template 'total and deterministic' (their statements: YtmhkkdnopcdibaaTotals.lean).
  GIVEN WITH THE SEED: the statements are not yours to turn. If you find one false, say at which input.
  Laid BY PROGRAM, IN A SANDBOX (cutbox-rows.mjs): the forced cells as the released guide's own fill.sh prints them over the translation 40e11780aac13a34… (all of the seat's roots in one cut). By AI agents, Wed Nov 11 2026. No macro, syntax, notation, axiom, sorry.
-/
import Derived.Test.YtmhkkdnopcdibaaChecked
import GoSem.Claim
import GoSem.ClaimJoined
import GoSem.ClaimMapViews
import Derived.JoinedTies
import Derived.KernelRfl
namespace Go.Proofs.Ytmhkkdnopcdibaa
/- THE CELL 'sum', in the pinned program and in every row, IS THE sha256 OF THE DUMP (.gsa) THAT YtmhkkdnopcdibaaProg.lean LOADS. Nothing in Lean hashes anything: it is a label: what it is worth is what the hold of that sum in a sandbox is worth. -/
noncomputable def Try.pinned : Pinned := { name := "ytmhkkdnopcdibaa", sum := "40e11780aac13a34ea3bd2009200b3a285b35e9a7b974255d30f8c43d4336b03", checked := Try.checked }
namespace Rows
def none {H : Type} : Left H := { results := [], args := [] }

/-- 'laws.FnDraws': WHATEVER THE INPUT: true; the input reads as it did. -/
def fnDrawsSpec : ChangeSpec := { name := "fnDraws", fn := fun _ => fun
  | [d] => { results := [.lit (.bool true)], args := [d] }
  | _ => none }
def fnDrawsRow : OpenClaim := { program := "ytmhkkdnopcdibaa", sum := "40e11780aac13a34ea3bd2009200b3a285b35e9a7b974255d30f8c43d4336b03", func := "loop.example/g00834/laws.FnDraws", spec := "fnDraws", unfollowed := true, recurses := true, plainKeys := false, apart := false }
def FnDrawsSaid : Prop := fnDrawsRow.holds Try.pinned (OpenSpec.ofChange fnDrawsSpec)

/-- ITS FALSE NEIGHBOUR: 'it returns false'. Refute it at one input. -/
def fnDrawsWrong : ChangeSpec := { name := "fnDraws", fn := fun _ => fun
  | [d] => { results := [.lit (.bool false)], args := [d] }
  | _ => none }
def FnDrawsWrongFalsely : Prop := fnDrawsRow.holds Try.pinned (OpenSpec.ofChange fnDrawsWrong)

/-- 'laws.FnChances': WHATEVER THE INPUT: true; the input reads as it did. -/
def fnChancesSpec : ChangeSpec := { name := "fnChances", fn := fun _ => fun
  | [d] => { results := [.lit (.bool true)], args := [d] }
  | _ => none }
def fnChancesRow : OpenClaim := { program := "ytmhkkdnopcdibaa", sum := "40e11780aac13a34ea3bd2009200b3a285b35e9a7b974255d30f8c43d4336b03", func := "loop.example/g00834/laws.FnChances", spec := "fnChances", unfollowed := true, recurses := true, plainKeys := false, apart := false }
def FnChancesSaid : Prop := fnChancesRow.holds Try.pinned (OpenSpec.ofChange fnChancesSpec)

/-- ITS FALSE NEIGHBOUR: 'it returns false'. Refute it at one input. -/
def fnChancesWrong : ChangeSpec := { name := "fnChances", fn := fun _ => fun
  | [d] => { results := [.lit (.bool false)], args := [d] }
  | _ => none }
def FnChancesWrongFalsely : Prop := fnChancesRow.holds Try.pinned (OpenSpec.ofChange fnChancesWrong)

/-- 'laws.FnExactPotsOk': WHATEVER THE INPUT: true; the input reads as it did. -/
def fnExactPotsOkSpec : ChangeSpec := { name := "fnExactPotsOk", fn := fun _ => fun
  | [d1, d2] => { results := [.lit (.bool true)], args := [d1, d2] }
  | _ => none }
def fnExactPotsOkRow : OpenClaim := { program := "ytmhkkdnopcdibaa", sum := "40e11780aac13a34ea3bd2009200b3a285b35e9a7b974255d30f8c43d4336b03", func := "loop.example/g00834/laws.FnExactPotsOk", spec := "fnExactPotsOk", unfollowed := true, recurses := true, plainKeys := false, apart := false }
def FnExactPotsOkSaid : Prop := fnExactPotsOkRow.holds Try.pinned (OpenSpec.ofChange fnExactPotsOkSpec)

/-- ITS FALSE NEIGHBOUR: 'it returns false'. Refute it at one input. -/
def fnExactPotsOkWrong : ChangeSpec := { name := "fnExactPotsOk", fn := fun _ => fun
  | [d1, d2] => { results := [.lit (.bool false)], args := [d1, d2] }
  | _ => none }
def FnExactPotsOkWrongFalsely : Prop := fnExactPotsOkRow.holds Try.pinned (OpenSpec.ofChange fnExactPotsOkWrong)

/-- 'laws.FnExactIsDraw': WHATEVER THE INPUT: true; the input reads as it did. -/
def fnExactIsDrawSpec : ChangeSpec := { name := "fnExactIsDraw", fn := fun _ => fun
  | [d1, d2, d3] => { results := [.lit (.bool true)], args := [d1, d2, d3] }
  | _ => none }
def fnExactIsDrawRow : OpenClaim := { program := "ytmhkkdnopcdibaa", sum := "40e11780aac13a34ea3bd2009200b3a285b35e9a7b974255d30f8c43d4336b03", func := "loop.example/g00834/laws.FnExactIsDraw", spec := "fnExactIsDraw", unfollowed := true, recurses := true, plainKeys := false, apart := false }
def FnExactIsDrawSaid : Prop := fnExactIsDrawRow.holds Try.pinned (OpenSpec.ofChange fnExactIsDrawSpec)

/-- ITS FALSE NEIGHBOUR: 'it returns false'. Refute it at one input. -/
def fnExactIsDrawWrong : ChangeSpec := { name := "fnExactIsDraw", fn := fun _ => fun
  | [d1, d2, d3] => { results := [.lit (.bool false)], args := [d1, d2, d3] }
  | _ => none }
def FnExactIsDrawWrongFalsely : Prop := fnExactIsDrawRow.holds Try.pinned (OpenSpec.ofChange fnExactIsDrawWrong)

/-- 'laws.FnExactCountDraws': WHATEVER THE INPUT: true; the input reads as it did. -/
def fnExactCountDrawsSpec : ChangeSpec := { name := "fnExactCountDraws", fn := fun _ => fun
  | [d1, d2, d3] => { results := [.lit (.bool true)], args := [d1, d2, d3] }
  | _ => none }
def fnExactCountDrawsRow : OpenClaim := { program := "ytmhkkdnopcdibaa", sum := "40e11780aac13a34ea3bd2009200b3a285b35e9a7b974255d30f8c43d4336b03", func := "loop.example/g00834/laws.FnExactCountDraws", spec := "fnExactCountDraws", unfollowed := true, recurses := true, plainKeys := false, apart := false }
def FnExactCountDrawsSaid : Prop := fnExactCountDrawsRow.holds Try.pinned (OpenSpec.ofChange fnExactCountDrawsSpec)

/-- ITS FALSE NEIGHBOUR: 'it returns false'. Refute it at one input. -/
def fnExactCountDrawsWrong : ChangeSpec := { name := "fnExactCountDraws", fn := fun _ => fun
  | [d1, d2, d3] => { results := [.lit (.bool false)], args := [d1, d2, d3] }
  | _ => none }
def FnExactCountDrawsWrongFalsely : Prop := fnExactCountDrawsRow.holds Try.pinned (OpenSpec.ofChange fnExactCountDrawsWrong)

/-- 'laws.FnExactNthDraw': WHATEVER THE INPUT: true; the input reads as it did. -/
def fnExactNthDrawSpec : ChangeSpec := { name := "fnExactNthDraw", fn := fun _ => fun
  | [d1, d2, d3] => { results := [.lit (.bool true)], args := [d1, d2, d3] }
  | _ => none }
def fnExactNthDrawRow : OpenClaim := { program := "ytmhkkdnopcdibaa", sum := "40e11780aac13a34ea3bd2009200b3a285b35e9a7b974255d30f8c43d4336b03", func := "loop.example/g00834/laws.FnExactNthDraw", spec := "fnExactNthDraw", unfollowed := true, recurses := true, plainKeys := false, apart := false }
def FnExactNthDrawSaid : Prop := fnExactNthDrawRow.holds Try.pinned (OpenSpec.ofChange fnExactNthDrawSpec)

/-- ITS FALSE NEIGHBOUR: 'it returns false'. Refute it at one input. -/
def fnExactNthDrawWrong : ChangeSpec := { name := "fnExactNthDraw", fn := fun _ => fun
  | [d1, d2, d3] => { results := [.lit (.bool false)], args := [d1, d2, d3] }
  | _ => none }
def FnExactNthDrawWrongFalsely : Prop := fnExactNthDrawRow.holds Try.pinned (OpenSpec.ofChange fnExactNthDrawWrong)

/-- 'laws.FnExactIndexOfDraw': WHATEVER THE INPUT: true; the input reads as it did. -/
def fnExactIndexOfDrawSpec : ChangeSpec := { name := "fnExactIndexOfDraw", fn := fun _ => fun
  | [d1, d2, d3] => { results := [.lit (.bool true)], args := [d1, d2, d3] }
  | _ => none }
def fnExactIndexOfDrawRow : OpenClaim := { program := "ytmhkkdnopcdibaa", sum := "40e11780aac13a34ea3bd2009200b3a285b35e9a7b974255d30f8c43d4336b03", func := "loop.example/g00834/laws.FnExactIndexOfDraw", spec := "fnExactIndexOfDraw", unfollowed := true, recurses := true, plainKeys := false, apart := false }
def FnExactIndexOfDrawSaid : Prop := fnExactIndexOfDrawRow.holds Try.pinned (OpenSpec.ofChange fnExactIndexOfDrawSpec)

/-- ITS FALSE NEIGHBOUR: 'it returns false'. Refute it at one input. -/
def fnExactIndexOfDrawWrong : ChangeSpec := { name := "fnExactIndexOfDraw", fn := fun _ => fun
  | [d1, d2, d3] => { results := [.lit (.bool false)], args := [d1, d2, d3] }
  | _ => none }
def FnExactIndexOfDrawWrongFalsely : Prop := fnExactIndexOfDrawRow.holds Try.pinned (OpenSpec.ofChange fnExactIndexOfDrawWrong)

/-- 'laws.FnExactGroupOf': WHATEVER THE INPUT: true; the input reads as it did. -/
def fnExactGroupOfSpec : ChangeSpec := { name := "fnExactGroupOf", fn := fun _ => fun
  | [d1, d2, d3] => { results := [.lit (.bool true)], args := [d1, d2, d3] }
  | _ => none }
def fnExactGroupOfRow : OpenClaim := { program := "ytmhkkdnopcdibaa", sum := "40e11780aac13a34ea3bd2009200b3a285b35e9a7b974255d30f8c43d4336b03", func := "loop.example/g00834/laws.FnExactGroupOf", spec := "fnExactGroupOf", plainKeys := false, apart := false }
def FnExactGroupOfSaid : Prop := fnExactGroupOfRow.holds Try.pinned (OpenSpec.ofChange fnExactGroupOfSpec)

/-- ITS FALSE NEIGHBOUR: 'it returns false'. Refute it at one input. -/
def fnExactGroupOfWrong : ChangeSpec := { name := "fnExactGroupOf", fn := fun _ => fun
  | [d1, d2, d3] => { results := [.lit (.bool false)], args := [d1, d2, d3] }
  | _ => none }
def FnExactGroupOfWrongFalsely : Prop := fnExactGroupOfRow.holds Try.pinned (OpenSpec.ofChange fnExactGroupOfWrong)

/-- 'laws.FnExactChancesOf': WHATEVER THE INPUT: true; the input reads as it did. -/
def fnExactChancesOfSpec : ChangeSpec := { name := "fnExactChancesOf", fn := fun _ => fun
  | [d1, d2, d3] => { results := [.lit (.bool true)], args := [d1, d2, d3] }
  | _ => none }
def fnExactChancesOfRow : OpenClaim := { program := "ytmhkkdnopcdibaa", sum := "40e11780aac13a34ea3bd2009200b3a285b35e9a7b974255d30f8c43d4336b03", func := "loop.example/g00834/laws.FnExactChancesOf", spec := "fnExactChancesOf", unfollowed := true, recurses := true, plainKeys := false, apart := false }
def FnExactChancesOfSaid : Prop := fnExactChancesOfRow.holds Try.pinned (OpenSpec.ofChange fnExactChancesOfSpec)

/-- ITS FALSE NEIGHBOUR: 'it returns false'. Refute it at one input. -/
def fnExactChancesOfWrong : ChangeSpec := { name := "fnExactChancesOf", fn := fun _ => fun
  | [d1, d2, d3] => { results := [.lit (.bool false)], args := [d1, d2, d3] }
  | _ => none }
def FnExactChancesOfWrongFalsely : Prop := fnExactChancesOfRow.holds Try.pinned (OpenSpec.ofChange fnExactChancesOfWrong)

/- THE SECOND FORM. 'bulk': how many values and letters a reading holds, each counted each time it is reached (what is shared counts as often as it is met; a slice's spare places count too). A statement '..UptoSaid' is the law's where the arguments, and the package variables that the reading takes, are together of bulk at most 1048576: NARROWER than '..Said'. Prove '..Said' where nothing that the law and all that it calls make is longer than what came in: it says more and counts as full. Else prove '..UptoSaid'. A law counts once. -/
mutual
def uptoBulk {H : Type} : DataW H → Nat
  | .lit (.string bytes) => bytes.length + 1
  | .lit _ => 1
  | .nil => 1
  | .ptr d => uptoBulk d + 1
  | .slice elems spare => uptoBulkAll elems + uptoBulkAll spare + 1
  | .agg parts => uptoBulkAll parts + 1
  | .iface _ d => uptoBulk d + 1
  | .map entries => uptoBulkEntries entries + 1
  | .held _ => 1
def uptoBulkAll {H : Type} : List (DataW H) → Nat
  | [] => 0
  | d :: r => uptoBulk d + uptoBulkAll r
def uptoBulkEntries {H : Type} : List (Lit × DataW H) → Nat
  | [] => 0
  | x :: r => uptoBulkEntry x + uptoBulkEntries r
def uptoBulkEntry {H : Type} : Lit × DataW H → Nat
  | (.string bytes, d) => bytes.length + uptoBulk d + 1
  | (_, d) => uptoBulk d + 1
 end
def uptoSmall : (H : Type) → List (DataW H) → Bool := fun _ ds => decide (uptoBulkAll ds ≤ 1048576)
def OpenSpec.upto (s : _root_.Go.ChangeSpec) : _root_.Go.OpenSpec := { _root_.Go.OpenSpec.ofChange s with cond := some uptoSmall }

/-- 'laws.FnDraws', WHERE WHAT IT READS IS OF BULK AT MOST 1048576: true; the input reads as it did. -/
def fnDrawsUptoRow : OpenClaim := { program := "ytmhkkdnopcdibaa", sum := "40e11780aac13a34ea3bd2009200b3a285b35e9a7b974255d30f8c43d4336b03", func := "loop.example/g00834/laws.FnDraws", spec := "fnDraws", unfollowed := true, recurses := true, plainKeys := false, apart := false, narrowed := true }
def FnDrawsUptoSaid : Prop := fnDrawsUptoRow.holds Try.pinned (OpenSpec.upto fnDrawsSpec)

/-- 'laws.FnChances', WHERE WHAT IT READS IS OF BULK AT MOST 1048576: true; the input reads as it did. -/
def fnChancesUptoRow : OpenClaim := { program := "ytmhkkdnopcdibaa", sum := "40e11780aac13a34ea3bd2009200b3a285b35e9a7b974255d30f8c43d4336b03", func := "loop.example/g00834/laws.FnChances", spec := "fnChances", unfollowed := true, recurses := true, plainKeys := false, apart := false, narrowed := true }
def FnChancesUptoSaid : Prop := fnChancesUptoRow.holds Try.pinned (OpenSpec.upto fnChancesSpec)

/-- 'laws.FnExactPotsOk', WHERE WHAT IT READS IS OF BULK AT MOST 1048576: true; the input reads as it did. -/
def fnExactPotsOkUptoRow : OpenClaim := { program := "ytmhkkdnopcdibaa", sum := "40e11780aac13a34ea3bd2009200b3a285b35e9a7b974255d30f8c43d4336b03", func := "loop.example/g00834/laws.FnExactPotsOk", spec := "fnExactPotsOk", unfollowed := true, recurses := true, plainKeys := false, apart := false, narrowed := true }
def FnExactPotsOkUptoSaid : Prop := fnExactPotsOkUptoRow.holds Try.pinned (OpenSpec.upto fnExactPotsOkSpec)

/-- 'laws.FnExactIsDraw', WHERE WHAT IT READS IS OF BULK AT MOST 1048576: true; the input reads as it did. -/
def fnExactIsDrawUptoRow : OpenClaim := { program := "ytmhkkdnopcdibaa", sum := "40e11780aac13a34ea3bd2009200b3a285b35e9a7b974255d30f8c43d4336b03", func := "loop.example/g00834/laws.FnExactIsDraw", spec := "fnExactIsDraw", unfollowed := true, recurses := true, plainKeys := false, apart := false, narrowed := true }
def FnExactIsDrawUptoSaid : Prop := fnExactIsDrawUptoRow.holds Try.pinned (OpenSpec.upto fnExactIsDrawSpec)

/-- 'laws.FnExactCountDraws', WHERE WHAT IT READS IS OF BULK AT MOST 1048576: true; the input reads as it did. -/
def fnExactCountDrawsUptoRow : OpenClaim := { program := "ytmhkkdnopcdibaa", sum := "40e11780aac13a34ea3bd2009200b3a285b35e9a7b974255d30f8c43d4336b03", func := "loop.example/g00834/laws.FnExactCountDraws", spec := "fnExactCountDraws", unfollowed := true, recurses := true, plainKeys := false, apart := false, narrowed := true }
def FnExactCountDrawsUptoSaid : Prop := fnExactCountDrawsUptoRow.holds Try.pinned (OpenSpec.upto fnExactCountDrawsSpec)

/-- 'laws.FnExactNthDraw', WHERE WHAT IT READS IS OF BULK AT MOST 1048576: true; the input reads as it did. -/
def fnExactNthDrawUptoRow : OpenClaim := { program := "ytmhkkdnopcdibaa", sum := "40e11780aac13a34ea3bd2009200b3a285b35e9a7b974255d30f8c43d4336b03", func := "loop.example/g00834/laws.FnExactNthDraw", spec := "fnExactNthDraw", unfollowed := true, recurses := true, plainKeys := false, apart := false, narrowed := true }
def FnExactNthDrawUptoSaid : Prop := fnExactNthDrawUptoRow.holds Try.pinned (OpenSpec.upto fnExactNthDrawSpec)

/-- 'laws.FnExactIndexOfDraw', WHERE WHAT IT READS IS OF BULK AT MOST 1048576: true; the input reads as it did. -/
def fnExactIndexOfDrawUptoRow : OpenClaim := { program := "ytmhkkdnopcdibaa", sum := "40e11780aac13a34ea3bd2009200b3a285b35e9a7b974255d30f8c43d4336b03", func := "loop.example/g00834/laws.FnExactIndexOfDraw", spec := "fnExactIndexOfDraw", unfollowed := true, recurses := true, plainKeys := false, apart := false, narrowed := true }
def FnExactIndexOfDrawUptoSaid : Prop := fnExactIndexOfDrawUptoRow.holds Try.pinned (OpenSpec.upto fnExactIndexOfDrawSpec)

/-- 'laws.FnExactGroupOf', WHERE WHAT IT READS IS OF BULK AT MOST 1048576: true; the input reads as it did. -/
def fnExactGroupOfUptoRow : OpenClaim := { program := "ytmhkkdnopcdibaa", sum := "40e11780aac13a34ea3bd2009200b3a285b35e9a7b974255d30f8c43d4336b03", func := "loop.example/g00834/laws.FnExactGroupOf", spec := "fnExactGroupOf", plainKeys := false, apart := false, narrowed := true }
def FnExactGroupOfUptoSaid : Prop := fnExactGroupOfUptoRow.holds Try.pinned (OpenSpec.upto fnExactGroupOfSpec)

/-- 'laws.FnExactChancesOf', WHERE WHAT IT READS IS OF BULK AT MOST 1048576: true; the input reads as it did. -/
def fnExactChancesOfUptoRow : OpenClaim := { program := "ytmhkkdnopcdibaa", sum := "40e11780aac13a34ea3bd2009200b3a285b35e9a7b974255d30f8c43d4336b03", func := "loop.example/g00834/laws.FnExactChancesOf", spec := "fnExactChancesOf", unfollowed := true, recurses := true, plainKeys := false, apart := false, narrowed := true }
def FnExactChancesOfUptoSaid : Prop := fnExactChancesOfUptoRow.holds Try.pinned (OpenSpec.upto fnExactChancesOfSpec)

end Rows
end Go.Proofs.Ytmhkkdnopcdibaa
