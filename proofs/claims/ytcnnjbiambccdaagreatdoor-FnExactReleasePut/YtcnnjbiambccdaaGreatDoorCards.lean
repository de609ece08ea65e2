/-
  DERIVED. GIVEN WITH THE SEED: THE CARDS: each row of YtcnnjbiambccdaaGreatDoorRows.lean that lists a variable, with what it lists TIED to the program's text (the seventh form; the later family's looks); each row that meets fmt, with fmt's text TOLD by the authors' own Lean function (tested against real Go, not proved from fmt's source: count such statements apart). THE CARD IS WHAT COUNTS. Prove the row's statement (the work); the ties are given (YtcnnjbiambccdaaGreatDoorTie.lean); close each card by the builder's one call (the guide's Derived/Test/ToyasCard.lean, 'card_holds'). Laid BY PROGRAM, IN A SANDBOX (cutbox-door.mjs). By AI agents, Wed Nov 11 2026. No macro, syntax, notation, axiom, sorry.
-/
import Derived.Test.YtcnnjbiambccdaaGreatDoorRows
import GoSem.ClaimSeven
namespace Go.Proofs.YtcnnjbiambccdaaGreatDoor
namespace Rows

/-- THE TIED CARD OF 'laws.FnExactReleasePut'. -/
def fnExactReleasePutCard : Claim7 := { stood := { row := fnExactReleasePutRow, standIns := [], harness := (true, "e0a8225dc431bdaa6a498471c856f8842fedd97ff056b91f5e7307c741cda351"), looks := true }, kinds := [], alts := [], laidByText := true, laidKinds := [.data, .data, .data], laidTests := true, laidLooks := .later }
def FnExactReleasePutCardSaid : Prop := Claim7.holds Tryz.pinned (.plain (OpenSpec.ofChange fnExactReleasePutSpec)) fnExactReleasePutCard

/-- THE SECOND FORM's CARD OF 'laws.FnExactReleasePut'. -/
def fnExactReleasePutUptoCard : Claim7 := { stood := { row := fnExactReleasePutUptoRow, standIns := [], harness := (true, "e0a8225dc431bdaa6a498471c856f8842fedd97ff056b91f5e7307c741cda351"), looks := true }, kinds := [], alts := [], laidByText := true, laidKinds := [.data, .data, .data], laidTests := true, laidLooks := .later }
def FnExactReleasePutUptoCardSaid : Prop := Claim7.holds Tryz.pinned (.plain (OpenSpec.upto fnExactReleasePutSpec)) fnExactReleasePutUptoCard
end Rows
end Go.Proofs.YtcnnjbiambccdaaGreatDoor
