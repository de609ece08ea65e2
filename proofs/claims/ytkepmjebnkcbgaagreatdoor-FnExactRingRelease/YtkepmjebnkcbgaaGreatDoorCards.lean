/-
  DERIVED. GIVEN WITH THE SEED: THE CARDS: each row of YtkepmjebnkcbgaaGreatDoorRows.lean that lists a variable, with what it lists TIED to the program's text (the seventh form; the later family's looks); each row that meets fmt, with fmt's text TOLD by the authors' own Lean function (tested against real Go, not proved from fmt's source: count such statements apart). THE CARD IS WHAT COUNTS. Prove the row's statement (the work); the ties are given (YtkepmjebnkcbgaaGreatDoorTie.lean); close each card by the builder's one call (the guide's Derived/Test/ToyasCard.lean, 'card_holds'). Laid BY PROGRAM, IN A SANDBOX (cutbox-door.mjs). By AI agents, Wed Nov 11 2026. No macro, syntax, notation, axiom, sorry.
-/
import Derived.Test.YtkepmjebnkcbgaaGreatDoorRows
import GoSem.ClaimSeven
namespace Go.Proofs.YtkepmjebnkcbgaaGreatDoor
namespace Rows

/-- THE TIED CARD OF 'laws.FnExactRingRelease'. -/
def fnExactRingReleaseCard : Claim7 := { stood := { row := fnExactRingReleaseRow, standIns := [], harness := (true, "3316951ede3cae7875068ae95a798750ea6a24e06b7449075801de90a0e433c6"), looks := true }, kinds := [], alts := [], laidByText := true, laidKinds := [.data, .data, .data, .data, .data], laidTests := true, laidLooks := .later }
def FnExactRingReleaseCardSaid : Prop := Claim7.holds Tryz.pinned (.plain (OpenSpec.ofChange fnExactRingReleaseSpec)) fnExactRingReleaseCard

/-- THE TIED CARD OF 'laws.FnExactReleaseOf'. -/
def fnExactReleaseOfCard : Claim7 := { stood := { row := fnExactReleaseOfRow, standIns := [], harness := (true, "3316951ede3cae7875068ae95a798750ea6a24e06b7449075801de90a0e433c6"), looks := true }, kinds := [], alts := [], laidByText := true, laidKinds := [.data, .data, .data, .data, .data], laidTests := true, laidLooks := .later }
def FnExactReleaseOfCardSaid : Prop := Claim7.holds Tryz.pinned (.plain (OpenSpec.ofChange fnExactReleaseOfSpec)) fnExactReleaseOfCard

/-- THE SECOND FORM's CARD OF 'laws.FnExactRingRelease'. -/
def fnExactRingReleaseUptoCard : Claim7 := { stood := { row := fnExactRingReleaseUptoRow, standIns := [], harness := (true, "3316951ede3cae7875068ae95a798750ea6a24e06b7449075801de90a0e433c6"), looks := true }, kinds := [], alts := [], laidByText := true, laidKinds := [.data, .data, .data, .data, .data], laidTests := true, laidLooks := .later }
def FnExactRingReleaseUptoCardSaid : Prop := Claim7.holds Tryz.pinned (.plain (OpenSpec.upto fnExactRingReleaseSpec)) fnExactRingReleaseUptoCard

/-- THE SECOND FORM's CARD OF 'laws.FnExactReleaseOf'. -/
def fnExactReleaseOfUptoCard : Claim7 := { stood := { row := fnExactReleaseOfUptoRow, standIns := [], harness := (true, "3316951ede3cae7875068ae95a798750ea6a24e06b7449075801de90a0e433c6"), looks := true }, kinds := [], alts := [], laidByText := true, laidKinds := [.data, .data, .data, .data, .data], laidTests := true, laidLooks := .later }
def FnExactReleaseOfUptoCardSaid : Prop := Claim7.holds Tryz.pinned (.plain (OpenSpec.upto fnExactReleaseOfSpec)) fnExactReleaseOfUptoCard
end Rows
end Go.Proofs.YtkepmjebnkcbgaaGreatDoor
