/-
  DERIVED. GIVEN WITH THE SEED: THE CARDS: each row of YtmjhgniilhbgeaaGreatDoorRows.lean that lists a variable, with what it lists TIED to the program's text (the seventh form; the later family's looks); each row that meets fmt, with fmt's text TOLD by the authors' own Lean function (tested against real Go, not proved from fmt's source: count such statements apart). THE CARD IS WHAT COUNTS. Prove the row's statement (the work); the ties are given (YtmjhgniilhbgeaaGreatDoorTie.lean); close each card by the builder's one call (the guide's Derived/Test/ToyasCard.lean, 'card_holds'). Laid BY PROGRAM, IN A SANDBOX (cutbox-door.mjs). By AI agents, Wed Nov 11 2026. No macro, syntax, notation, axiom, sorry.
-/
import Derived.Test.YtmjhgniilhbgeaaGreatDoorRows
import GoSem.ClaimSeven
namespace Go.Proofs.YtmjhgniilhbgeaaGreatDoor
namespace Rows

/-- THE TIED CARD OF 'laws.FnClientNew'. -/
def fnClientNewCard : Claim7 := { stood := { row := fnClientNewRow, standIns := [], harness := (true, "487338d422407a15b475bf02cf5c258d6c61bcc1d35e14d7c4c3b7fac592f1c9"), looks := true }, kinds := [], alts := [], laidByText := true, laidKinds := [.data, .data, .data, .data, .handle, .sentinel, .sentinel, .data, .data, .pinned], laidTests := true, laidLooks := .later }
def FnClientNewCardSaid : Prop := Claim7.holds Tryz.pinned (.plain (OpenSpec.ofChange fnClientNewSpec)) fnClientNewCard

/-- THE SECOND FORM's CARD OF 'laws.FnClientNew'. -/
def fnClientNewUptoCard : Claim7 := { stood := { row := fnClientNewUptoRow, standIns := [], harness := (true, "487338d422407a15b475bf02cf5c258d6c61bcc1d35e14d7c4c3b7fac592f1c9"), looks := true }, kinds := [], alts := [], laidByText := true, laidKinds := [.data, .data, .data, .data, .handle, .sentinel, .sentinel, .data, .data, .pinned], laidTests := true, laidLooks := .later }
def FnClientNewUptoCardSaid : Prop := Claim7.holds Tryz.pinned (.plain (OpenSpec.upto fnClientNewSpec)) fnClientNewUptoCard
end Rows
end Go.Proofs.YtmjhgniilhbgeaaGreatDoor
