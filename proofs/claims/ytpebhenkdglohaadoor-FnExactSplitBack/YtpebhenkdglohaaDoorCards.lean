/-
  DERIVED. GIVEN WITH THE SEED: THE CARDS: each row of YtpebhenkdglohaaDoorRows.lean that lists a variable, with what it lists TIED to the program's text (the seventh form; the later family's looks); each row that meets fmt, with fmt's text TOLD by the authors' own Lean function (tested against real Go, not proved from fmt's source: count such statements apart). THE CARD IS WHAT COUNTS. Prove the row's statement (the work); the ties are given (YtpebhenkdglohaaDoorTie.lean); close each card by the builder's one call (the guide's Derived/Test/ToyasCard.lean, 'card_holds'). Laid BY PROGRAM, IN A SANDBOX (cutbox-door.mjs). By AI agents, Wed Nov 11 2026. No macro, syntax, notation, axiom, sorry.
-/
import Derived.Test.YtpebhenkdglohaaDoorRows
import GoSem.ClaimSeven
namespace Go.Proofs.YtpebhenkdglohaaDoor
namespace Rows

/-- THE TIED CARD OF 'laws.FnSplitBack'. -/
def fnSplitBackCard : Claim7 := { stood := { row := fnSplitBackRow, standIns := [], harness := (true, "abfa123b89948c45cdb2a595afd309d77ef1d781a39cf713241b5f87468af21d"), looks := false }, kinds := [], alts := [], laidByText := true, laidKinds := [.data, .pinned], laidTests := true, laidLooks := .later }
def FnSplitBackCardSaid : Prop := Claim7.holds Tryd.pinned (.plain (OpenSpec.ofChange fnSplitBackSpec)) fnSplitBackCard

/-- THE TIED CARD OF 'laws.FnExactSplitBack'. -/
def fnExactSplitBackCard : Claim7 := { stood := { row := fnExactSplitBackRow, standIns := [], harness := (true, "abfa123b89948c45cdb2a595afd309d77ef1d781a39cf713241b5f87468af21d"), looks := false }, kinds := [], alts := [], laidByText := true, laidKinds := [.data, .pinned], laidTests := true, laidLooks := .later }
def FnExactSplitBackCardSaid : Prop := Claim7.holds Tryd.pinned (.plain (OpenSpec.ofChange fnExactSplitBackSpec)) fnExactSplitBackCard

/-- THE SECOND FORM's CARD OF 'laws.FnSplitBack'. -/
def fnSplitBackUptoCard : Claim7 := { stood := { row := fnSplitBackUptoRow, standIns := [], harness := (true, "abfa123b89948c45cdb2a595afd309d77ef1d781a39cf713241b5f87468af21d"), looks := false }, kinds := [], alts := [], laidByText := true, laidKinds := [.data, .pinned], laidTests := true, laidLooks := .later }
def FnSplitBackUptoCardSaid : Prop := Claim7.holds Tryd.pinned (.plain (OpenSpec.upto fnSplitBackSpec)) fnSplitBackUptoCard

/-- THE SECOND FORM's CARD OF 'laws.FnExactSplitBack'. -/
def fnExactSplitBackUptoCard : Claim7 := { stood := { row := fnExactSplitBackUptoRow, standIns := [], harness := (true, "abfa123b89948c45cdb2a595afd309d77ef1d781a39cf713241b5f87468af21d"), looks := false }, kinds := [], alts := [], laidByText := true, laidKinds := [.data, .pinned], laidTests := true, laidLooks := .later }
def FnExactSplitBackUptoCardSaid : Prop := Claim7.holds Tryd.pinned (.plain (OpenSpec.upto fnExactSplitBackSpec)) fnExactSplitBackUptoCard
end Rows
end Go.Proofs.YtpebhenkdglohaaDoor
