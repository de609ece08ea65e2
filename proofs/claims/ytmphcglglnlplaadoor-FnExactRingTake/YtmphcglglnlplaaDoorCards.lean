/-
  DERIVED. GIVEN WITH THE SEED: THE CARDS: each row of YtmphcglglnlplaaDoorRows.lean that lists a variable, with what it lists TIED to the program's text (the seventh form; the later family's looks); each row that meets fmt, with fmt's text TOLD by the authors' own Lean function (tested against real Go, not proved from fmt's source: count such statements apart). THE CARD IS WHAT COUNTS. Prove the row's statement (the work); the ties are given (YtmphcglglnlplaaDoorTie.lean); close each card by the builder's one call (the guide's Derived/Test/ToyasCard.lean, 'card_holds'). Laid BY PROGRAM, IN A SANDBOX (cutbox-door.mjs). By AI agents, Wed Nov 11 2026. No macro, syntax, notation, axiom, sorry.
-/
import Derived.Test.YtmphcglglnlplaaDoorRows
import GoSem.ClaimSeven
namespace Go.Proofs.YtmphcglglnlplaaDoor
namespace Rows

/-- THE TIED CARD OF 'laws.FnExactTurnOf'. -/
def fnExactTurnOfCard : Claim7 := { stood := { row := fnExactTurnOfRow, standIns := [], harness := (true, "90ac7643d797eb8a31b0a96e8c7f287daac92ca9b876fcd81f97dbc007e9269c"), looks := false }, kinds := [], alts := [], laidByText := true, laidKinds := [.data, .data, .data, .data, .data], laidTests := true, laidLooks := .later }
def FnExactTurnOfCardSaid : Prop := Claim7.holds Tryd.pinned (.plain (OpenSpec.ofChange fnExactTurnOfSpec)) fnExactTurnOfCard

/-- THE TIED CARD OF 'laws.FnExactRingTake'. -/
def fnExactRingTakeCard : Claim7 := { stood := { row := fnExactRingTakeRow, standIns := [], harness := (true, "90ac7643d797eb8a31b0a96e8c7f287daac92ca9b876fcd81f97dbc007e9269c"), looks := false }, kinds := [], alts := [], laidByText := true, laidKinds := [.data, .data, .data, .data, .data], laidTests := true, laidLooks := .later }
def FnExactRingTakeCardSaid : Prop := Claim7.holds Tryd.pinned (.plain (OpenSpec.ofChange fnExactRingTakeSpec)) fnExactRingTakeCard

/-- THE TIED CARD OF 'laws.FnExactRingPut'. -/
def fnExactRingPutCard : Claim7 := { stood := { row := fnExactRingPutRow, standIns := [], harness := (true, "90ac7643d797eb8a31b0a96e8c7f287daac92ca9b876fcd81f97dbc007e9269c"), looks := false }, kinds := [], alts := [], laidByText := true, laidKinds := [.data, .data, .data, .data, .data], laidTests := true, laidLooks := .later }
def FnExactRingPutCardSaid : Prop := Claim7.holds Tryd.pinned (.plain (OpenSpec.ofChange fnExactRingPutSpec)) fnExactRingPutCard

/-- THE SECOND FORM's CARD OF 'laws.FnExactTurnOf'. -/
def fnExactTurnOfUptoCard : Claim7 := { stood := { row := fnExactTurnOfUptoRow, standIns := [], harness := (true, "90ac7643d797eb8a31b0a96e8c7f287daac92ca9b876fcd81f97dbc007e9269c"), looks := false }, kinds := [], alts := [], laidByText := true, laidKinds := [.data, .data, .data, .data, .data], laidTests := true, laidLooks := .later }
def FnExactTurnOfUptoCardSaid : Prop := Claim7.holds Tryd.pinned (.plain (OpenSpec.upto fnExactTurnOfSpec)) fnExactTurnOfUptoCard

/-- THE SECOND FORM's CARD OF 'laws.FnExactRingTake'. -/
def fnExactRingTakeUptoCard : Claim7 := { stood := { row := fnExactRingTakeUptoRow, standIns := [], harness := (true, "90ac7643d797eb8a31b0a96e8c7f287daac92ca9b876fcd81f97dbc007e9269c"), looks := false }, kinds := [], alts := [], laidByText := true, laidKinds := [.data, .data, .data, .data, .data], laidTests := true, laidLooks := .later }
def FnExactRingTakeUptoCardSaid : Prop := Claim7.holds Tryd.pinned (.plain (OpenSpec.upto fnExactRingTakeSpec)) fnExactRingTakeUptoCard

/-- THE SECOND FORM's CARD OF 'laws.FnExactRingPut'. -/
def fnExactRingPutUptoCard : Claim7 := { stood := { row := fnExactRingPutUptoRow, standIns := [], harness := (true, "90ac7643d797eb8a31b0a96e8c7f287daac92ca9b876fcd81f97dbc007e9269c"), looks := false }, kinds := [], alts := [], laidByText := true, laidKinds := [.data, .data, .data, .data, .data], laidTests := true, laidLooks := .later }
def FnExactRingPutUptoCardSaid : Prop := Claim7.holds Tryd.pinned (.plain (OpenSpec.upto fnExactRingPutSpec)) fnExactRingPutUptoCard
end Rows
end Go.Proofs.YtmphcglglnlplaaDoor
