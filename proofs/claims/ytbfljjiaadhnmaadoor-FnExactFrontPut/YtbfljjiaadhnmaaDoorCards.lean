/-
  DERIVED. GIVEN WITH THE SEED: THE CARDS: each row of YtbfljjiaadhnmaaDoorRows.lean that lists a variable, with what it lists TIED to the program's text (the seventh form; the later family's looks); each row that meets fmt, with fmt's text TOLD by the authors' own Lean function (tested against real Go, not proved from fmt's source: count such statements apart). THE CARD IS WHAT COUNTS. Prove the row's statement (the work); the ties are given (YtbfljjiaadhnmaaDoorTie.lean); close each card by the builder's one call (the guide's Derived/Test/ToyasCard.lean, 'card_holds'). Laid BY PROGRAM, IN A SANDBOX (cutbox-door.mjs). By AI agents, Wed Nov 11 2026. No macro, syntax, notation, axiom, sorry.
-/
import Derived.Test.YtbfljjiaadhnmaaDoorRows
import GoSem.ClaimSeven
namespace Go.Proofs.YtbfljjiaadhnmaaDoor
namespace Rows

/-- THE TIED CARD OF 'laws.FnExactFrontPut'. -/
def fnExactFrontPutCard : Claim7 := { stood := { row := fnExactFrontPutRow, standIns := [], harness := (true, "85000fe83761894c7d2236b2cae2953045a42785651e1a4bdaeb6fbfd4527c6d"), looks := false }, kinds := [], alts := [], laidByText := true, laidKinds := [.data, .data, .data], laidTests := true, laidLooks := .later }
def FnExactFrontPutCardSaid : Prop := Claim7.holds Tryd.pinned (.plain (OpenSpec.ofChange fnExactFrontPutSpec)) fnExactFrontPutCard

/-- THE SECOND FORM's CARD OF 'laws.FnExactFrontPut'. -/
def fnExactFrontPutUptoCard : Claim7 := { stood := { row := fnExactFrontPutUptoRow, standIns := [], harness := (true, "85000fe83761894c7d2236b2cae2953045a42785651e1a4bdaeb6fbfd4527c6d"), looks := false }, kinds := [], alts := [], laidByText := true, laidKinds := [.data, .data, .data], laidTests := true, laidLooks := .later }
def FnExactFrontPutUptoCardSaid : Prop := Claim7.holds Tryd.pinned (.plain (OpenSpec.upto fnExactFrontPutSpec)) fnExactFrontPutUptoCard
end Rows
end Go.Proofs.YtbfljjiaadhnmaaDoor
