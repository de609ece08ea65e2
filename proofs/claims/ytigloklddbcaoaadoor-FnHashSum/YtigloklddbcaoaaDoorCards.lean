/-
  DERIVED. GIVEN WITH THE SEED: THE CARDS: each row of YtigloklddbcaoaaDoorRows.lean that lists a variable, with what it lists TIED to the program's text (the seventh form; the later family's looks); each row that meets fmt, with fmt's text TOLD by the authors' own Lean function (tested against real Go, not proved from fmt's source: count such statements apart). THE CARD IS WHAT COUNTS. Prove the row's statement (the work); the ties are given (YtigloklddbcaoaaDoorTie.lean); close each card by the builder's one call (the guide's Derived/Test/ToyasCard.lean, 'card_holds'). Laid BY PROGRAM, IN A SANDBOX (cutbox-door.mjs). By AI agents, Wed Nov 11 2026. No macro, syntax, notation, axiom, sorry.
-/
import Derived.Test.YtigloklddbcaoaaDoorRows
import GoSem.ClaimSeven
namespace Go.Proofs.YtigloklddbcaoaaDoor
namespace Rows

/-- THE TIED CARD OF 'laws.FnHashSum'. -/
def fnHashSumCard : Claim7 := { stood := { row := fnHashSumRow, standIns := [], harness := (true, "e97eaab86150b830c119ebb07dced574569e5f2ebf451ccd0bb216ac3c675f95"), looks := false }, kinds := [], alts := [], laidByText := true, laidKinds := [.data, .data], laidTests := true, laidLooks := .later }
def FnHashSumCardSaid : Prop := Claim7.holds Tryd.pinned (.plain (OpenSpec.ofChange fnHashSumSpec)) fnHashSumCard

/-- THE TIED CARD OF 'laws.FnSealOf'. -/
def fnSealOfCard : Claim7 := { stood := { row := fnSealOfRow, standIns := [], harness := (true, "e97eaab86150b830c119ebb07dced574569e5f2ebf451ccd0bb216ac3c675f95"), looks := false }, kinds := [], alts := [], laidByText := true, laidKinds := [.data, .data], laidTests := true, laidLooks := .later }
def FnSealOfCardSaid : Prop := Claim7.holds Tryd.pinned (.plain (OpenSpec.ofChange fnSealOfSpec)) fnSealOfCard

/-- THE SECOND FORM's CARD OF 'laws.FnHashSum'. -/
def fnHashSumUptoCard : Claim7 := { stood := { row := fnHashSumUptoRow, standIns := [], harness := (true, "e97eaab86150b830c119ebb07dced574569e5f2ebf451ccd0bb216ac3c675f95"), looks := false }, kinds := [], alts := [], laidByText := true, laidKinds := [.data, .data], laidTests := true, laidLooks := .later }
def FnHashSumUptoCardSaid : Prop := Claim7.holds Tryd.pinned (.plain (OpenSpec.upto fnHashSumSpec)) fnHashSumUptoCard

/-- THE SECOND FORM's CARD OF 'laws.FnSealOf'. -/
def fnSealOfUptoCard : Claim7 := { stood := { row := fnSealOfUptoRow, standIns := [], harness := (true, "e97eaab86150b830c119ebb07dced574569e5f2ebf451ccd0bb216ac3c675f95"), looks := false }, kinds := [], alts := [], laidByText := true, laidKinds := [.data, .data], laidTests := true, laidLooks := .later }
def FnSealOfUptoCardSaid : Prop := Claim7.holds Tryd.pinned (.plain (OpenSpec.upto fnSealOfSpec)) fnSealOfUptoCard
end Rows
end Go.Proofs.YtigloklddbcaoaaDoor
