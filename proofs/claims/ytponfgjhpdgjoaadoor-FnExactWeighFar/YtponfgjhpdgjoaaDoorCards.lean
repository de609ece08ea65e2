/-
  DERIVED. GIVEN WITH THE SEED: THE CARDS: each row of YtponfgjhpdgjoaaDoorRows.lean that lists a variable, with what it lists TIED to the program's text (the seventh form; the later family's looks); each row that meets fmt, with fmt's text TOLD by the authors' own Lean function (tested against real Go, not proved from fmt's source: count such statements apart). THE CARD IS WHAT COUNTS. Prove the row's statement (the work); the ties are given (YtponfgjhpdgjoaaDoorTie.lean); close each card by the builder's one call (the guide's Derived/Test/ToyasCard.lean, 'card_holds'). Laid BY PROGRAM, IN A SANDBOX (cutbox-door.mjs). By AI agents, Wed Nov 11 2026. No macro, syntax, notation, axiom, sorry.
-/
import Derived.Test.YtponfgjhpdgjoaaDoorRows
import GoSem.ClaimSeven
namespace Go.Proofs.YtponfgjhpdgjoaaDoor
namespace Rows

/-- THE TIED CARD OF 'laws.FnExactKeyFar'. -/
def fnExactKeyFarCard : Claim7 := { stood := { row := fnExactKeyFarRow, standIns := [], harness := (true, "c964c63874f02a9d5eba9e4728d1aca23817fb761286367f8f65f9ae655ff40c"), looks := false }, kinds := [], alts := [], laidByText := true, laidKinds := [.data], laidTests := true, laidLooks := .later }
def FnExactKeyFarCardSaid : Prop := Claim7.holds Tryd.pinned (.plain (OpenSpec.ofChange fnExactKeyFarSpec)) fnExactKeyFarCard

/-- THE TIED CARD OF 'laws.FnExactWeighFar'. -/
def fnExactWeighFarCard : Claim7 := { stood := { row := fnExactWeighFarRow, standIns := [], harness := (true, "c964c63874f02a9d5eba9e4728d1aca23817fb761286367f8f65f9ae655ff40c"), looks := false }, kinds := [], alts := [], laidByText := true, laidKinds := [.data], laidTests := true, laidLooks := .later }
def FnExactWeighFarCardSaid : Prop := Claim7.holds Tryd.pinned (.plain (OpenSpec.ofChange fnExactWeighFarSpec)) fnExactWeighFarCard

/-- THE SECOND FORM's CARD OF 'laws.FnExactKeyFar'. -/
def fnExactKeyFarUptoCard : Claim7 := { stood := { row := fnExactKeyFarUptoRow, standIns := [], harness := (true, "c964c63874f02a9d5eba9e4728d1aca23817fb761286367f8f65f9ae655ff40c"), looks := false }, kinds := [], alts := [], laidByText := true, laidKinds := [.data], laidTests := true, laidLooks := .later }
def FnExactKeyFarUptoCardSaid : Prop := Claim7.holds Tryd.pinned (.plain (OpenSpec.upto fnExactKeyFarSpec)) fnExactKeyFarUptoCard

/-- THE SECOND FORM's CARD OF 'laws.FnExactWeighFar'. -/
def fnExactWeighFarUptoCard : Claim7 := { stood := { row := fnExactWeighFarUptoRow, standIns := [], harness := (true, "c964c63874f02a9d5eba9e4728d1aca23817fb761286367f8f65f9ae655ff40c"), looks := false }, kinds := [], alts := [], laidByText := true, laidKinds := [.data], laidTests := true, laidLooks := .later }
def FnExactWeighFarUptoCardSaid : Prop := Claim7.holds Tryd.pinned (.plain (OpenSpec.upto fnExactWeighFarSpec)) fnExactWeighFarUptoCard
end Rows
end Go.Proofs.YtponfgjhpdgjoaaDoor
