/-
  DERIVED. GIVEN WITH THE SEED: THE CARDS: each row of YtcbpgbiannpfpaaDoorRows.lean that lists a variable, with what it lists TIED to the program's text (the seventh form; the later family's looks); each row that meets fmt, with fmt's text TOLD by the authors' own Lean function (tested against real Go, not proved from fmt's source: count such statements apart). THE CARD IS WHAT COUNTS. Prove the row's statement (the work); the ties are given (YtcbpgbiannpfpaaDoorTie.lean); close each card by the builder's one call (the guide's Derived/Test/ToyasCard.lean, 'card_holds'). Laid BY PROGRAM, IN A SANDBOX (cutbox-door.mjs). By AI agents, Wed Nov 11 2026. No macro, syntax, notation, axiom, sorry.
-/
import Derived.Test.YtcbpgbiannpfpaaDoorRows
import GoSem.ClaimSeven
namespace Go.Proofs.YtcbpgbiannpfpaaDoor
namespace Rows

/-- THE TIED CARD OF 'laws.FnCalendars'. -/
def fnCalendarsCard : Claim7 := { stood := { row := fnCalendarsRow, standIns := [], harness := (true, "4b4ad2d089bd50fc114b0b1943a603e34a2f94a041c3418e91f1cc82a745d931"), looks := true }, kinds := [], alts := [], laidByText := true, laidKinds := [.sentinel], laidTests := true, laidLooks := .later }
def FnCalendarsCardSaid : Prop := Claim7.holds Tryd.pinned (.plain (OpenSpec.ofChange fnCalendarsSpec)) fnCalendarsCard

/-- THE TIED CARD OF 'laws.FnExactFirstCalendar'. -/
def fnExactFirstCalendarCard : Claim7 := { stood := { row := fnExactFirstCalendarRow, standIns := [], harness := (true, "4b4ad2d089bd50fc114b0b1943a603e34a2f94a041c3418e91f1cc82a745d931"), looks := true }, kinds := [], alts := [], laidByText := true, laidKinds := [.sentinel], laidTests := true, laidLooks := .later }
def FnExactFirstCalendarCardSaid : Prop := Claim7.holds Tryd.pinned (.plain (OpenSpec.ofChange fnExactFirstCalendarSpec)) fnExactFirstCalendarCard

/-- THE TIED CARD OF 'laws.FnExactBlockedRounds'. -/
def fnExactBlockedRoundsCard : Claim7 := { stood := { row := fnExactBlockedRoundsRow, standIns := [], harness := (true, "4b4ad2d089bd50fc114b0b1943a603e34a2f94a041c3418e91f1cc82a745d931"), looks := true }, kinds := [], alts := [], laidByText := true, laidKinds := [.sentinel], laidTests := true, laidLooks := .later }
def FnExactBlockedRoundsCardSaid : Prop := Claim7.holds Tryd.pinned (.plain (OpenSpec.ofChange fnExactBlockedRoundsSpec)) fnExactBlockedRoundsCard

/-- THE SECOND FORM's CARD OF 'laws.FnCalendars'. -/
def fnCalendarsUptoCard : Claim7 := { stood := { row := fnCalendarsUptoRow, standIns := [], harness := (true, "4b4ad2d089bd50fc114b0b1943a603e34a2f94a041c3418e91f1cc82a745d931"), looks := true }, kinds := [], alts := [], laidByText := true, laidKinds := [.sentinel], laidTests := true, laidLooks := .later }
def FnCalendarsUptoCardSaid : Prop := Claim7.holds Tryd.pinned (.plain (OpenSpec.upto fnCalendarsSpec)) fnCalendarsUptoCard

/-- THE SECOND FORM's CARD OF 'laws.FnExactFirstCalendar'. -/
def fnExactFirstCalendarUptoCard : Claim7 := { stood := { row := fnExactFirstCalendarUptoRow, standIns := [], harness := (true, "4b4ad2d089bd50fc114b0b1943a603e34a2f94a041c3418e91f1cc82a745d931"), looks := true }, kinds := [], alts := [], laidByText := true, laidKinds := [.sentinel], laidTests := true, laidLooks := .later }
def FnExactFirstCalendarUptoCardSaid : Prop := Claim7.holds Tryd.pinned (.plain (OpenSpec.upto fnExactFirstCalendarSpec)) fnExactFirstCalendarUptoCard

/-- THE SECOND FORM's CARD OF 'laws.FnExactBlockedRounds'. -/
def fnExactBlockedRoundsUptoCard : Claim7 := { stood := { row := fnExactBlockedRoundsUptoRow, standIns := [], harness := (true, "4b4ad2d089bd50fc114b0b1943a603e34a2f94a041c3418e91f1cc82a745d931"), looks := true }, kinds := [], alts := [], laidByText := true, laidKinds := [.sentinel], laidTests := true, laidLooks := .later }
def FnExactBlockedRoundsUptoCardSaid : Prop := Claim7.holds Tryd.pinned (.plain (OpenSpec.upto fnExactBlockedRoundsSpec)) fnExactBlockedRoundsUptoCard
end Rows
end Go.Proofs.YtcbpgbiannpfpaaDoor
