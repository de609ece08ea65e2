/-
  DERIVED. GIVEN WITH THE SEED: THE CARDS: each row of YtdjpeickokoclaaDoorRows.lean that lists a variable, with what it lists TIED to the program's text (the seventh form; the later family's looks); each row that meets fmt, with fmt's text TOLD by the authors' own Lean function (tested against real Go, not proved from fmt's source: count such statements apart). THE CARD IS WHAT COUNTS. Prove the row's statement (the work); the ties are given (YtdjpeickokoclaaDoorTie.lean); close each card by the builder's one call (the guide's Derived/Test/ToyasCard.lean, 'card_holds'). Laid BY PROGRAM, IN A SANDBOX (cutbox-door.mjs). By AI agents, Wed Nov 11 2026. No macro, syntax, notation, axiom, sorry.
-/
import Derived.Test.YtdjpeickokoclaaDoorRows
import GoSem.ClaimSeven
namespace Go.Proofs.YtdjpeickokoclaaDoor
namespace Rows

/-- THE TIED CARD OF 'laws.FnRingTake'. -/
def fnRingTakeCard : Claim7 := { stood := { row := fnRingTakeRow, standIns := [], harness := (true, "e752067811db01cba48b86c393c660e72444600466158d8719b2274a5e406f60"), looks := false }, kinds := [], alts := [], laidByText := true, laidKinds := [.data, .data, .data, .data, .data], laidTests := true, laidLooks := .later }
def FnRingTakeCardSaid : Prop := Claim7.holds Tryd.pinned (.plain (OpenSpec.ofChange fnRingTakeSpec)) fnRingTakeCard

/-- THE TIED CARD OF 'laws.FnTurnOf'. -/
def fnTurnOfCard : Claim7 := { stood := { row := fnTurnOfRow, standIns := [], harness := (true, "e752067811db01cba48b86c393c660e72444600466158d8719b2274a5e406f60"), looks := false }, kinds := [], alts := [], laidByText := true, laidKinds := [.data, .data, .data, .data, .data], laidTests := true, laidLooks := .later }
def FnTurnOfCardSaid : Prop := Claim7.holds Tryd.pinned (.plain (OpenSpec.ofChange fnTurnOfSpec)) fnTurnOfCard

/-- THE SECOND FORM's CARD OF 'laws.FnRingTake'. -/
def fnRingTakeUptoCard : Claim7 := { stood := { row := fnRingTakeUptoRow, standIns := [], harness := (true, "e752067811db01cba48b86c393c660e72444600466158d8719b2274a5e406f60"), looks := false }, kinds := [], alts := [], laidByText := true, laidKinds := [.data, .data, .data, .data, .data], laidTests := true, laidLooks := .later }
def FnRingTakeUptoCardSaid : Prop := Claim7.holds Tryd.pinned (.plain (OpenSpec.upto fnRingTakeSpec)) fnRingTakeUptoCard

/-- THE SECOND FORM's CARD OF 'laws.FnTurnOf'. -/
def fnTurnOfUptoCard : Claim7 := { stood := { row := fnTurnOfUptoRow, standIns := [], harness := (true, "e752067811db01cba48b86c393c660e72444600466158d8719b2274a5e406f60"), looks := false }, kinds := [], alts := [], laidByText := true, laidKinds := [.data, .data, .data, .data, .data], laidTests := true, laidLooks := .later }
def FnTurnOfUptoCardSaid : Prop := Claim7.holds Tryd.pinned (.plain (OpenSpec.upto fnTurnOfSpec)) fnTurnOfUptoCard
end Rows
end Go.Proofs.YtdjpeickokoclaaDoor
