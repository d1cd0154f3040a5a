/-
  DERIVED. GIVEN WITH THE SEED: THE CARDS: each row of YteciobkjfmddcaaDoorRows.lean that lists a variable, with what it lists TIED to the program's text (the seventh form; the later family's looks); each row that meets fmt, with fmt's text TOLD by the authors' own Lean function (tested against real Go, not proved from fmt's source: count such statements apart). THE CARD IS WHAT COUNTS. Prove the row's statement (the work); the ties are given (YteciobkjfmddcaaDoorTie.lean); close each card by the builder's one call (the guide's Derived/Test/ToyasCard.lean, 'card_holds'). Laid BY PROGRAM, IN A SANDBOX (cutbox-door.mjs). By AI agents, Wed Nov 11 2026. No macro, syntax, notation, axiom, sorry.
-/
import Derived.Test.YteciobkjfmddcaaDoorRows
import GoSem.ClaimSeven
namespace Go.Proofs.YteciobkjfmddcaaDoor
namespace Rows

/-- THE TIED CARD OF 'laws.FnExactReasonText'. -/
def fnExactReasonTextCard : Claim7 := { stood := { row := fnExactReasonTextRow, standIns := [], harness := (true, "1009ebd7afdf655ccd2183c7424770d59abf2d441ebfda24eb7eb038e92ae61e"), looks := false }, kinds := [], alts := [], laidByText := true, laidKinds := [.data, .data, .data], laidTests := true, laidLooks := .later }
def FnExactReasonTextCardSaid : Prop := Claim7.holds Tryd.pinned (.plain (OpenSpec.ofChange fnExactReasonTextSpec)) fnExactReasonTextCard

/-- THE SECOND FORM's CARD OF 'laws.FnExactReasonText'. -/
def fnExactReasonTextUptoCard : Claim7 := { stood := { row := fnExactReasonTextUptoRow, standIns := [], harness := (true, "1009ebd7afdf655ccd2183c7424770d59abf2d441ebfda24eb7eb038e92ae61e"), looks := false }, kinds := [], alts := [], laidByText := true, laidKinds := [.data, .data, .data], laidTests := true, laidLooks := .later }
def FnExactReasonTextUptoCardSaid : Prop := Claim7.holds Tryd.pinned (.plain (OpenSpec.upto fnExactReasonTextSpec)) fnExactReasonTextUptoCard
end Rows
end Go.Proofs.YteciobkjfmddcaaDoor
