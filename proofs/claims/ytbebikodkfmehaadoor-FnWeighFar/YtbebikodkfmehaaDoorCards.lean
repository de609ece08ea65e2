/-
  DERIVED. GIVEN WITH THE SEED: THE CARDS: each row of YtbebikodkfmehaaDoorRows.lean that lists a variable, with what it lists TIED to the program's text (the seventh form; the later family's looks); each row that meets fmt, with fmt's text TOLD by the authors' own Lean function (tested against real Go, not proved from fmt's source: count such statements apart). THE CARD IS WHAT COUNTS. Prove the row's statement (the work); the ties are given (YtbebikodkfmehaaDoorTie.lean); close each card by the builder's one call (the guide's Derived/Test/ToyasCard.lean, 'card_holds'). Laid BY PROGRAM, IN A SANDBOX (cutbox-door.mjs). By AI agents, Wed Nov 11 2026. No macro, syntax, notation, axiom, sorry.
-/
import Derived.Test.YtbebikodkfmehaaDoorRows
import GoSem.ClaimSeven
namespace Go.Proofs.YtbebikodkfmehaaDoor
namespace Rows

/-- THE TIED CARD OF 'laws.FnKeyFar'. -/
def fnKeyFarCard : Claim7 := { stood := { row := fnKeyFarRow, standIns := [], harness := (true, "b16869ab48a09c9c7336455dd313cb9daecc1d93b47cdabfbb5040bc353e43fd"), looks := false }, kinds := [], alts := [], laidByText := true, laidKinds := [.data], laidTests := true, laidLooks := .later }
def FnKeyFarCardSaid : Prop := Claim7.holds Tryd.pinned (.plain (OpenSpec.ofChange fnKeyFarSpec)) fnKeyFarCard

/-- THE TIED CARD OF 'laws.FnWeighFar'. -/
def fnWeighFarCard : Claim7 := { stood := { row := fnWeighFarRow, standIns := [], harness := (true, "b16869ab48a09c9c7336455dd313cb9daecc1d93b47cdabfbb5040bc353e43fd"), looks := false }, kinds := [], alts := [], laidByText := true, laidKinds := [.data], laidTests := true, laidLooks := .later }
def FnWeighFarCardSaid : Prop := Claim7.holds Tryd.pinned (.plain (OpenSpec.ofChange fnWeighFarSpec)) fnWeighFarCard

/-- THE SECOND FORM's CARD OF 'laws.FnKeyFar'. -/
def fnKeyFarUptoCard : Claim7 := { stood := { row := fnKeyFarUptoRow, standIns := [], harness := (true, "b16869ab48a09c9c7336455dd313cb9daecc1d93b47cdabfbb5040bc353e43fd"), looks := false }, kinds := [], alts := [], laidByText := true, laidKinds := [.data], laidTests := true, laidLooks := .later }
def FnKeyFarUptoCardSaid : Prop := Claim7.holds Tryd.pinned (.plain (OpenSpec.upto fnKeyFarSpec)) fnKeyFarUptoCard

/-- THE SECOND FORM's CARD OF 'laws.FnWeighFar'. -/
def fnWeighFarUptoCard : Claim7 := { stood := { row := fnWeighFarUptoRow, standIns := [], harness := (true, "b16869ab48a09c9c7336455dd313cb9daecc1d93b47cdabfbb5040bc353e43fd"), looks := false }, kinds := [], alts := [], laidByText := true, laidKinds := [.data], laidTests := true, laidLooks := .later }
def FnWeighFarUptoCardSaid : Prop := Claim7.holds Tryd.pinned (.plain (OpenSpec.upto fnWeighFarSpec)) fnWeighFarUptoCard
end Rows
end Go.Proofs.YtbebikodkfmehaaDoor
