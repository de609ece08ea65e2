/-
  DERIVED. GIVEN WITH THE SEED: THE CARDS: each row of YtcdgikhkjpneiaaGreatDoorRows.lean that lists a variable, with what it lists TIED to the program's text (the seventh form; the later family's looks); each row that meets fmt, with fmt's text TOLD by the authors' own Lean function (tested against real Go, not proved from fmt's source: count such statements apart). THE CARD IS WHAT COUNTS. Prove the row's statement (the work); the ties are given (YtcdgikhkjpneiaaGreatDoorTie.lean); close each card by the builder's one call (the guide's Derived/Test/ToyasCard.lean, 'card_holds'). Laid BY PROGRAM, IN A SANDBOX (cutbox-door.mjs). By AI agents, Wed Nov 11 2026. No macro, syntax, notation, axiom, sorry.
-/
import Derived.Test.YtcdgikhkjpneiaaGreatDoorRows
import GoSem.ClaimSeven
namespace Go.Proofs.YtcdgikhkjpneiaaGreatDoor
namespace Rows

/-- THE TIED CARD OF 'laws.FnExactReleaseOf'. -/
def fnExactReleaseOfCard : Claim7 := { stood := { row := fnExactReleaseOfRow, standIns := [], harness := (true, "9243ae76ec451f0452fc4ed63d3669abcf82a589b155480bdaad0432c119dd1d"), looks := true }, kinds := [], alts := [], laidByText := true, laidKinds := [.data, .data, .data, .data, .data], laidTests := true, laidLooks := .later }
def FnExactReleaseOfCardSaid : Prop := Claim7.holds Tryz.pinned (.plain (OpenSpec.ofChange fnExactReleaseOfSpec)) fnExactReleaseOfCard

/-- THE TIED CARD OF 'laws.FnExactReleaseOk'. -/
def fnExactReleaseOkCard : Claim7 := { stood := { row := fnExactReleaseOkRow, standIns := [], harness := (true, "9243ae76ec451f0452fc4ed63d3669abcf82a589b155480bdaad0432c119dd1d"), looks := true }, kinds := [], alts := [], laidByText := true, laidKinds := [.data, .data, .data, .data, .data], laidTests := true, laidLooks := .later }
def FnExactReleaseOkCardSaid : Prop := Claim7.holds Tryz.pinned (.plain (OpenSpec.ofChange fnExactReleaseOkSpec)) fnExactReleaseOkCard

/-- THE SECOND FORM's CARD OF 'laws.FnExactReleaseOf'. -/
def fnExactReleaseOfUptoCard : Claim7 := { stood := { row := fnExactReleaseOfUptoRow, standIns := [], harness := (true, "9243ae76ec451f0452fc4ed63d3669abcf82a589b155480bdaad0432c119dd1d"), looks := true }, kinds := [], alts := [], laidByText := true, laidKinds := [.data, .data, .data, .data, .data], laidTests := true, laidLooks := .later }
def FnExactReleaseOfUptoCardSaid : Prop := Claim7.holds Tryz.pinned (.plain (OpenSpec.upto fnExactReleaseOfSpec)) fnExactReleaseOfUptoCard

/-- THE SECOND FORM's CARD OF 'laws.FnExactReleaseOk'. -/
def fnExactReleaseOkUptoCard : Claim7 := { stood := { row := fnExactReleaseOkUptoRow, standIns := [], harness := (true, "9243ae76ec451f0452fc4ed63d3669abcf82a589b155480bdaad0432c119dd1d"), looks := true }, kinds := [], alts := [], laidByText := true, laidKinds := [.data, .data, .data, .data, .data], laidTests := true, laidLooks := .later }
def FnExactReleaseOkUptoCardSaid : Prop := Claim7.holds Tryz.pinned (.plain (OpenSpec.upto fnExactReleaseOkSpec)) fnExactReleaseOkUptoCard
end Rows
end Go.Proofs.YtcdgikhkjpneiaaGreatDoor
