/-
  No cell of these rows narrows 'for every input' (looked for: loops, veiled, ifaces, maps, wideKeys, modest, calm, conditions, laid).
  DERIVED. THE GIVEN ROWS OF THIS SEAT. 9 by the template 'for every input the law returns true; each argument reads behind the call as it read before'; 0 by the template 'total and deterministic' (their statements: YtmghnhjfkecaaaaTotals.lean).
  GIVEN WITH THE SEED: the statements are not yours to turn. If you find one false, say at which input.
  Laid BY PROGRAM, IN A SANDBOX (cutbox-rows.mjs): the forced cells as the released guide's own fill.sh prints them over the translation 0eb61f06a10999b0… (all of the seat's roots in one cut). By AI agents, Wed Nov 11 2026. No macro, syntax, notation, axiom, sorry.
-/
import Derived.Test.YtmghnhjfkecaaaaChecked
import GoSem.Claim
import GoSem.ClaimJoined
import GoSem.ClaimMapViews
import Derived.JoinedTies
import Derived.KernelRfl
namespace Go.Proofs.Ytmghnhjfkecaaaa
/- THE CELL 'sum', in the pinned program and in every row, IS THE sha256 OF THE DUMP (.gsa) THAT YtmghnhjfkecaaaaProg.lean LOADS. Nothing in Lean hashes anything: it is a label: what it is worth is what the hold of that sum in a sandbox is worth. -/
noncomputable def Try.pinned : Pinned := { name := "ytmghnhjfkecaaaa", sum := "0eb61f06a10999b0b73217914a61580c100478ca14654b7c416f1c4dc802df2d", checked := Try.checked }
namespace Rows
def none {H : Type} : Left H := { results := [], args := [] }

/-- 'laws.FnFields': WHATEVER THE INPUT: true; the input reads as it did. -/
def fnFieldsSpec : ChangeSpec := { name := "fnFields", fn := fun _ => fun
  | [d] => { results := [.lit (.bool true)], args := [d] }
  | _ => none }
def fnFieldsRow : OpenClaim := { program := "ytmghnhjfkecaaaa", sum := "0eb61f06a10999b0b73217914a61580c100478ca14654b7c416f1c4dc802df2d", func := "loop.example/g00834/laws.FnFields", spec := "fnFields", unfollowed := true, recurses := true, plainKeys := false, apart := false }
def FnFieldsSaid : Prop := fnFieldsRow.holds Try.pinned (OpenSpec.ofChange fnFieldsSpec)

/-- ITS FALSE NEIGHBOUR: 'it returns false'. Refute it at one input. -/
def fnFieldsWrong : ChangeSpec := { name := "fnFields", fn := fun _ => fun
  | [d] => { results := [.lit (.bool false)], args := [d] }
  | _ => none }
def FnFieldsWrongFalsely : Prop := fnFieldsRow.holds Try.pinned (OpenSpec.ofChange fnFieldsWrong)

/-- 'laws.FnExactTeamOk': WHATEVER THE INPUT: true; the input reads as it did. -/
def fnExactTeamOkSpec : ChangeSpec := { name := "fnExactTeamOk", fn := fun _ => fun
  | [d] => { results := [.lit (.bool true)], args := [d] }
  | _ => none }
def fnExactTeamOkRow : OpenClaim := { program := "ytmghnhjfkecaaaa", sum := "0eb61f06a10999b0b73217914a61580c100478ca14654b7c416f1c4dc802df2d", func := "loop.example/g00834/laws.FnExactTeamOk", spec := "fnExactTeamOk", plainKeys := false, apart := false }
def FnExactTeamOkSaid : Prop := fnExactTeamOkRow.holds Try.pinned (OpenSpec.ofChange fnExactTeamOkSpec)

/-- ITS FALSE NEIGHBOUR: 'it returns false'. Refute it at one input. -/
def fnExactTeamOkWrong : ChangeSpec := { name := "fnExactTeamOk", fn := fun _ => fun
  | [d] => { results := [.lit (.bool false)], args := [d] }
  | _ => none }
def FnExactTeamOkWrongFalsely : Prop := fnExactTeamOkRow.holds Try.pinned (OpenSpec.ofChange fnExactTeamOkWrong)

/-- 'laws.FnExactFieldOk': WHATEVER THE INPUT: true; the input reads as it did. -/
def fnExactFieldOkSpec : ChangeSpec := { name := "fnExactFieldOk", fn := fun _ => fun
  | [d] => { results := [.lit (.bool true)], args := [d] }
  | _ => none }
def fnExactFieldOkRow : OpenClaim := { program := "ytmghnhjfkecaaaa", sum := "0eb61f06a10999b0b73217914a61580c100478ca14654b7c416f1c4dc802df2d", func := "loop.example/g00834/laws.FnExactFieldOk", spec := "fnExactFieldOk", plainKeys := false, apart := false }
def FnExactFieldOkSaid : Prop := fnExactFieldOkRow.holds Try.pinned (OpenSpec.ofChange fnExactFieldOkSpec)

/-- ITS FALSE NEIGHBOUR: 'it returns false'. Refute it at one input. -/
def fnExactFieldOkWrong : ChangeSpec := { name := "fnExactFieldOk", fn := fun _ => fun
  | [d] => { results := [.lit (.bool false)], args := [d] }
  | _ => none }
def FnExactFieldOkWrongFalsely : Prop := fnExactFieldOkRow.holds Try.pinned (OpenSpec.ofChange fnExactFieldOkWrong)

/-- 'laws.FnExactTeamNamed': WHATEVER THE INPUT: true; the input reads as it did. -/
def fnExactTeamNamedSpec : ChangeSpec := { name := "fnExactTeamNamed", fn := fun _ => fun
  | [d1, d2] => { results := [.lit (.bool true)], args := [d1, d2] }
  | _ => none }
def fnExactTeamNamedRow : OpenClaim := { program := "ytmghnhjfkecaaaa", sum := "0eb61f06a10999b0b73217914a61580c100478ca14654b7c416f1c4dc802df2d", func := "loop.example/g00834/laws.FnExactTeamNamed", spec := "fnExactTeamNamed", plainKeys := false, apart := false }
def FnExactTeamNamedSaid : Prop := fnExactTeamNamedRow.holds Try.pinned (OpenSpec.ofChange fnExactTeamNamedSpec)

/-- ITS FALSE NEIGHBOUR: 'it returns false'. Refute it at one input. -/
def fnExactTeamNamedWrong : ChangeSpec := { name := "fnExactTeamNamed", fn := fun _ => fun
  | [d1, d2] => { results := [.lit (.bool false)], args := [d1, d2] }
  | _ => none }
def FnExactTeamNamedWrongFalsely : Prop := fnExactTeamNamedRow.holds Try.pinned (OpenSpec.ofChange fnExactTeamNamedWrong)

/-- 'laws.FnExactSeedOrder': WHATEVER THE INPUT: true; the input reads as it did. -/
def fnExactSeedOrderSpec : ChangeSpec := { name := "fnExactSeedOrder", fn := fun _ => fun
  | [d] => { results := [.lit (.bool true)], args := [d] }
  | _ => none }
def fnExactSeedOrderRow : OpenClaim := { program := "ytmghnhjfkecaaaa", sum := "0eb61f06a10999b0b73217914a61580c100478ca14654b7c416f1c4dc802df2d", func := "loop.example/g00834/laws.FnExactSeedOrder", spec := "fnExactSeedOrder", unfollowed := true, recurses := true, plainKeys := false, apart := false }
def FnExactSeedOrderSaid : Prop := fnExactSeedOrderRow.holds Try.pinned (OpenSpec.ofChange fnExactSeedOrderSpec)

/-- ITS FALSE NEIGHBOUR: 'it returns false'. Refute it at one input. -/
def fnExactSeedOrderWrong : ChangeSpec := { name := "fnExactSeedOrder", fn := fun _ => fun
  | [d] => { results := [.lit (.bool false)], args := [d] }
  | _ => none }
def FnExactSeedOrderWrongFalsely : Prop := fnExactSeedOrderRow.holds Try.pinned (OpenSpec.ofChange fnExactSeedOrderWrong)

/-- 'laws.FnExactOfClub': WHATEVER THE INPUT: true; the input reads as it did. -/
def fnExactOfClubSpec : ChangeSpec := { name := "fnExactOfClub", fn := fun _ => fun
  | [d1, d2] => { results := [.lit (.bool true)], args := [d1, d2] }
  | _ => none }
def fnExactOfClubRow : OpenClaim := { program := "ytmghnhjfkecaaaa", sum := "0eb61f06a10999b0b73217914a61580c100478ca14654b7c416f1c4dc802df2d", func := "loop.example/g00834/laws.FnExactOfClub", spec := "fnExactOfClub", plainKeys := false, apart := false }
def FnExactOfClubSaid : Prop := fnExactOfClubRow.holds Try.pinned (OpenSpec.ofChange fnExactOfClubSpec)

/-- ITS FALSE NEIGHBOUR: 'it returns false'. Refute it at one input. -/
def fnExactOfClubWrong : ChangeSpec := { name := "fnExactOfClub", fn := fun _ => fun
  | [d1, d2] => { results := [.lit (.bool false)], args := [d1, d2] }
  | _ => none }
def FnExactOfClubWrongFalsely : Prop := fnExactOfClubRow.holds Try.pinned (OpenSpec.ofChange fnExactOfClubWrong)

/-- 'laws.FnExactClubsOf': WHATEVER THE INPUT: true; the input reads as it did. -/
def fnExactClubsOfSpec : ChangeSpec := { name := "fnExactClubsOf", fn := fun _ => fun
  | [d] => { results := [.lit (.bool true)], args := [d] }
  | _ => none }
def fnExactClubsOfRow : OpenClaim := { program := "ytmghnhjfkecaaaa", sum := "0eb61f06a10999b0b73217914a61580c100478ca14654b7c416f1c4dc802df2d", func := "loop.example/g00834/laws.FnExactClubsOf", spec := "fnExactClubsOf", plainKeys := false, apart := false }
def FnExactClubsOfSaid : Prop := fnExactClubsOfRow.holds Try.pinned (OpenSpec.ofChange fnExactClubsOfSpec)

/-- ITS FALSE NEIGHBOUR: 'it returns false'. Refute it at one input. -/
def fnExactClubsOfWrong : ChangeSpec := { name := "fnExactClubsOf", fn := fun _ => fun
  | [d] => { results := [.lit (.bool false)], args := [d] }
  | _ => none }
def FnExactClubsOfWrongFalsely : Prop := fnExactClubsOfRow.holds Try.pinned (OpenSpec.ofChange fnExactClubsOfWrong)

/-- 'laws.FnExactIsOrder': WHATEVER THE INPUT: true; the input reads as it did. -/
def fnExactIsOrderSpec : ChangeSpec := { name := "fnExactIsOrder", fn := fun _ => fun
  | [d1, d2] => { results := [.lit (.bool true)], args := [d1, d2] }
  | _ => none }
def fnExactIsOrderRow : OpenClaim := { program := "ytmghnhjfkecaaaa", sum := "0eb61f06a10999b0b73217914a61580c100478ca14654b7c416f1c4dc802df2d", func := "loop.example/g00834/laws.FnExactIsOrder", spec := "fnExactIsOrder", plainKeys := false, apart := false }
def FnExactIsOrderSaid : Prop := fnExactIsOrderRow.holds Try.pinned (OpenSpec.ofChange fnExactIsOrderSpec)

/-- ITS FALSE NEIGHBOUR: 'it returns false'. Refute it at one input. -/
def fnExactIsOrderWrong : ChangeSpec := { name := "fnExactIsOrder", fn := fun _ => fun
  | [d1, d2] => { results := [.lit (.bool false)], args := [d1, d2] }
  | _ => none }
def FnExactIsOrderWrongFalsely : Prop := fnExactIsOrderRow.holds Try.pinned (OpenSpec.ofChange fnExactIsOrderWrong)

/-- 'laws.FnExactPlaceOf': WHATEVER THE INPUT: true; the input reads as it did. -/
def fnExactPlaceOfSpec : ChangeSpec := { name := "fnExactPlaceOf", fn := fun _ => fun
  | [d1, d2] => { results := [.lit (.bool true)], args := [d1, d2] }
  | _ => none }
def fnExactPlaceOfRow : OpenClaim := { program := "ytmghnhjfkecaaaa", sum := "0eb61f06a10999b0b73217914a61580c100478ca14654b7c416f1c4dc802df2d", func := "loop.example/g00834/laws.FnExactPlaceOf", spec := "fnExactPlaceOf", plainKeys := false, apart := false }
def FnExactPlaceOfSaid : Prop := fnExactPlaceOfRow.holds Try.pinned (OpenSpec.ofChange fnExactPlaceOfSpec)

/-- ITS FALSE NEIGHBOUR: 'it returns false'. Refute it at one input. -/
def fnExactPlaceOfWrong : ChangeSpec := { name := "fnExactPlaceOf", fn := fun _ => fun
  | [d1, d2] => { results := [.lit (.bool false)], args := [d1, d2] }
  | _ => none }
def FnExactPlaceOfWrongFalsely : Prop := fnExactPlaceOfRow.holds Try.pinned (OpenSpec.ofChange fnExactPlaceOfWrong)

/- THE SECOND FORM. 'bulk': how many values and letters a reading holds, each counted each time it is reached (what is shared counts as often as it is met; a slice's spare places count too). A statement '..UptoSaid' is the law's where the arguments, and the package variables that the reading takes, are together of bulk at most 1048576: NARROWER than '..Said'. Prove '..Said' where nothing that the law and all that it calls make is longer than what came in: it says more and counts as full. Else prove '..UptoSaid'. A law counts once. -/
mutual
def uptoBulk {H : Type} : DataW H → Nat
  | .lit (.string bytes) => bytes.length + 1
  | .lit _ => 1
  | .nil => 1
  | .ptr d => uptoBulk d + 1
  | .slice elems spare => uptoBulkAll elems + uptoBulkAll spare + 1
  | .agg parts => uptoBulkAll parts + 1
  | .iface _ d => uptoBulk d + 1
  | .map entries => uptoBulkEntries entries + 1
  | .held _ => 1
def uptoBulkAll {H : Type} : List (DataW H) → Nat
  | [] => 0
  | d :: r => uptoBulk d + uptoBulkAll r
def uptoBulkEntries {H : Type} : List (Lit × DataW H) → Nat
  | [] => 0
  | x :: r => uptoBulkEntry x + uptoBulkEntries r
def uptoBulkEntry {H : Type} : Lit × DataW H → Nat
  | (.string bytes, d) => bytes.length + uptoBulk d + 1
  | (_, d) => uptoBulk d + 1
 end
def uptoSmall : (H : Type) → List (DataW H) → Bool := fun _ ds => decide (uptoBulkAll ds ≤ 1048576)
def OpenSpec.upto (s : _root_.Go.ChangeSpec) : _root_.Go.OpenSpec := { _root_.Go.OpenSpec.ofChange s with cond := some uptoSmall }

/-- 'laws.FnFields', WHERE WHAT IT READS IS OF BULK AT MOST 1048576: true; the input reads as it did. -/
def fnFieldsUptoRow : OpenClaim := { program := "ytmghnhjfkecaaaa", sum := "0eb61f06a10999b0b73217914a61580c100478ca14654b7c416f1c4dc802df2d", func := "loop.example/g00834/laws.FnFields", spec := "fnFields", unfollowed := true, recurses := true, plainKeys := false, apart := false, narrowed := true }
def FnFieldsUptoSaid : Prop := fnFieldsUptoRow.holds Try.pinned (OpenSpec.upto fnFieldsSpec)

/-- 'laws.FnExactTeamOk', WHERE WHAT IT READS IS OF BULK AT MOST 1048576: true; the input reads as it did. -/
def fnExactTeamOkUptoRow : OpenClaim := { program := "ytmghnhjfkecaaaa", sum := "0eb61f06a10999b0b73217914a61580c100478ca14654b7c416f1c4dc802df2d", func := "loop.example/g00834/laws.FnExactTeamOk", spec := "fnExactTeamOk", plainKeys := false, apart := false, narrowed := true }
def FnExactTeamOkUptoSaid : Prop := fnExactTeamOkUptoRow.holds Try.pinned (OpenSpec.upto fnExactTeamOkSpec)

/-- 'laws.FnExactFieldOk', WHERE WHAT IT READS IS OF BULK AT MOST 1048576: true; the input reads as it did. -/
def fnExactFieldOkUptoRow : OpenClaim := { program := "ytmghnhjfkecaaaa", sum := "0eb61f06a10999b0b73217914a61580c100478ca14654b7c416f1c4dc802df2d", func := "loop.example/g00834/laws.FnExactFieldOk", spec := "fnExactFieldOk", plainKeys := false, apart := false, narrowed := true }
def FnExactFieldOkUptoSaid : Prop := fnExactFieldOkUptoRow.holds Try.pinned (OpenSpec.upto fnExactFieldOkSpec)

/-- 'laws.FnExactTeamNamed', WHERE WHAT IT READS IS OF BULK AT MOST 1048576: true; the input reads as it did. -/
def fnExactTeamNamedUptoRow : OpenClaim := { program := "ytmghnhjfkecaaaa", sum := "0eb61f06a10999b0b73217914a61580c100478ca14654b7c416f1c4dc802df2d", func := "loop.example/g00834/laws.FnExactTeamNamed", spec := "fnExactTeamNamed", plainKeys := false, apart := false, narrowed := true }
def FnExactTeamNamedUptoSaid : Prop := fnExactTeamNamedUptoRow.holds Try.pinned (OpenSpec.upto fnExactTeamNamedSpec)

/-- 'laws.FnExactSeedOrder', WHERE WHAT IT READS IS OF BULK AT MOST 1048576: true; the input reads as it did. -/
def fnExactSeedOrderUptoRow : OpenClaim := { program := "ytmghnhjfkecaaaa", sum := "0eb61f06a10999b0b73217914a61580c100478ca14654b7c416f1c4dc802df2d", func := "loop.example/g00834/laws.FnExactSeedOrder", spec := "fnExactSeedOrder", unfollowed := true, recurses := true, plainKeys := false, apart := false, narrowed := true }
def FnExactSeedOrderUptoSaid : Prop := fnExactSeedOrderUptoRow.holds Try.pinned (OpenSpec.upto fnExactSeedOrderSpec)

/-- 'laws.FnExactOfClub', WHERE WHAT IT READS IS OF BULK AT MOST 1048576: true; the input reads as it did. -/
def fnExactOfClubUptoRow : OpenClaim := { program := "ytmghnhjfkecaaaa", sum := "0eb61f06a10999b0b73217914a61580c100478ca14654b7c416f1c4dc802df2d", func := "loop.example/g00834/laws.FnExactOfClub", spec := "fnExactOfClub", plainKeys := false, apart := false, narrowed := true }
def FnExactOfClubUptoSaid : Prop := fnExactOfClubUptoRow.holds Try.pinned (OpenSpec.upto fnExactOfClubSpec)

/-- 'laws.FnExactClubsOf', WHERE WHAT IT READS IS OF BULK AT MOST 1048576: true; the input reads as it did. -/
def fnExactClubsOfUptoRow : OpenClaim := { program := "ytmghnhjfkecaaaa", sum := "0eb61f06a10999b0b73217914a61580c100478ca14654b7c416f1c4dc802df2d", func := "loop.example/g00834/laws.FnExactClubsOf", spec := "fnExactClubsOf", plainKeys := false, apart := false, narrowed := true }
def FnExactClubsOfUptoSaid : Prop := fnExactClubsOfUptoRow.holds Try.pinned (OpenSpec.upto fnExactClubsOfSpec)

/-- 'laws.FnExactIsOrder', WHERE WHAT IT READS IS OF BULK AT MOST 1048576: true; the input reads as it did. -/
def fnExactIsOrderUptoRow : OpenClaim := { program := "ytmghnhjfkecaaaa", sum := "0eb61f06a10999b0b73217914a61580c100478ca14654b7c416f1c4dc802df2d", func := "loop.example/g00834/laws.FnExactIsOrder", spec := "fnExactIsOrder", plainKeys := false, apart := false, narrowed := true }
def FnExactIsOrderUptoSaid : Prop := fnExactIsOrderUptoRow.holds Try.pinned (OpenSpec.upto fnExactIsOrderSpec)

/-- 'laws.FnExactPlaceOf', WHERE WHAT IT READS IS OF BULK AT MOST 1048576: true; the input reads as it did. -/
def fnExactPlaceOfUptoRow : OpenClaim := { program := "ytmghnhjfkecaaaa", sum := "0eb61f06a10999b0b73217914a61580c100478ca14654b7c416f1c4dc802df2d", func := "loop.example/g00834/laws.FnExactPlaceOf", spec := "fnExactPlaceOf", plainKeys := false, apart := false, narrowed := true }
def FnExactPlaceOfUptoSaid : Prop := fnExactPlaceOfUptoRow.holds Try.pinned (OpenSpec.upto fnExactPlaceOfSpec)

end Rows
end Go.Proofs.Ytmghnhjfkecaaaa
