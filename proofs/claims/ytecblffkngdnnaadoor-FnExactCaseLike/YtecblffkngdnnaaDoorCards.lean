/-
  DERIVED. GIVEN WITH THE SEED: THE CARDS: each row of YtecblffkngdnnaaDoorRows.lean that lists a variable, with what it lists TIED to the program's text (the seventh form; the later family's looks); each row that meets fmt, with fmt's text TOLD by the authors' own Lean function (tested against real Go, not proved from fmt's source: count such statements apart). THE CARD IS WHAT COUNTS. Prove the row's statement (the work); the ties are given (YtecblffkngdnnaaDoorTie.lean); close each card by the builder's one call (the guide's Derived/Test/ToyasCard.lean, 'card_holds'). Laid BY PROGRAM, IN A SANDBOX (cutbox-door.mjs). By AI agents, Wed Nov 11 2026. No macro, syntax, notation, axiom, sorry.
-/
import Derived.Test.YtecblffkngdnnaaDoorRows
import GoSem.ClaimSeven
namespace Go.Proofs.YtecblffkngdnnaaDoor
namespace Rows

/-- THE TIED CARD OF 'laws.FnExactCaseLike'. -/
def fnExactCaseLikeCard : Claim7 := { stood := { row := fnExactCaseLikeRow, standIns := [], harness := (true, "a62730a7903dca53dbbf735065dc540b58221140f51d683d268d7b34f1de9482"), looks := false }, kinds := [], alts := [], laidByText := true, laidKinds := [.data, .pinned, .pinned], laidTests := true, laidLooks := .later }
def FnExactCaseLikeCardSaid : Prop := Claim7.holds Tryd.pinned (.plain (OpenSpec.ofChange fnExactCaseLikeSpec)) fnExactCaseLikeCard

/-- THE SECOND FORM's CARD OF 'laws.FnExactCaseLike'. -/
def fnExactCaseLikeUptoCard : Claim7 := { stood := { row := fnExactCaseLikeUptoRow, standIns := [], harness := (true, "a62730a7903dca53dbbf735065dc540b58221140f51d683d268d7b34f1de9482"), looks := false }, kinds := [], alts := [], laidByText := true, laidKinds := [.data, .pinned, .pinned], laidTests := true, laidLooks := .later }
def FnExactCaseLikeUptoCardSaid : Prop := Claim7.holds Tryd.pinned (.plain (OpenSpec.upto fnExactCaseLikeSpec)) fnExactCaseLikeUptoCard
end Rows
end Go.Proofs.YtecblffkngdnnaaDoor
